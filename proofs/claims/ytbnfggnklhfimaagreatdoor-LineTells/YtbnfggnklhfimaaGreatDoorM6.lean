/- The texts that this proof stands on, part 6 of 6. -/
import Derived.Test.YtbnfggnklhfimaaGreatDoorM5
import Derived.Deep.RegionWith
import Derived.Test.YtbnfggnklhfimaaGreatDoorM3
import Derived.Test.YtbnfggnklhfimaaGreatDoorM1
import Derived.Test.YtbnfggnklhfimaaGreatDoorRows
import Derived.Test.YtbnfggnklhfimaaGreatDoorM2
import Derived.HandedShaped
import Derived.OpenShut
import Derived.ChangeArms

/- The developers' lines: Pair. -/
namespace Go.Proofs.YtbnfggnklhfimaaGreatDoor
open Go.RowKit

set_option maxRecDepth 100000 in
set_option maxHeartbeats 8000000 in
theorem pair7_any (l : List Tk) (at_ : Int) (v : Value) (w : World) (h : Tks w v l) (hl : Short l) :
    Calls Tryz.prog 15 #[v, .int .i64 at_] w fun e w' => e = .returned (pairE (pairR l at_)) ∧ Below w.heap.size w w' := by
  have ST0 := hide (TwoSt.new w)
  have cl := several_any l at_ 1 v _ (h.below (ST0.out).bel) hl (by decide)
  have hpr : pairR l at_ = match linesR l 2 at_ with
    | .error (a, e) => ((noLn, noLn), a, e)
    | .ok (xs, j) => match xs with
      | [x, y] => ((x, y), j, 0)
      | x :: _ => ((x, otherL x), j, 0)
      | [] => ((noLn, noLn), j, 0) := rfl
  have hbad := fun a e => lines_bad (l := l) (f := 2) (i := at_) (a := a) (e := e)
  have hlen := fun xs j => lines_len (l := l) (f := 1) (i := at_) (xs := xs) (j := j)
  have co := fun x w => opposite_any x w
  obtain ⟨ao, n0, cap, rfl⟩ : ∃ ao n cap, v = .slice ao n cap := by
    rcases h.val with ⟨_, ao, cap, h⟩ | ⟨b, off, cap, h, _⟩
    · exact ⟨_, _, _, h⟩
    · exact ⟨_, _, _, h⟩
  generalize pairR l at_ = PR at *
  generalize linesR l 2 at_ = LR at *
  have CL := hide cl
  have CO := hide co
  clear cl co h hl
  have hn01 : ¬ w.heap.size = w.heap.size + 1 := by omega
  have hn10 : ¬ w.heap.size + 1 = w.heap.size := by omega
  go_enter Tryz.func15, Tryz.ntmps15
  go_upto_region 1 with fail
  generalize ((w.alloc (.cells #[.int .i64 0, .int .i64 0, .string ⟨#[]⟩] 23)).alloc (.cells #[.int .i64 0, .int .i64 0, .string ⟨#[]⟩] 23)) = w0 at *
  have hw0 : w.heap.size + 2 ≤ w0.heap.size := by have := (ST0.out).y.lt; omega
  go_wp2_with fail
  refine Calls.mono CL.out ?_
  rintro e w1 ⟨hb, hE⟩
  have ST1 := hide ((ST0.out).next hb)
  clear hb ST0 CL
  cases LR with
  | error p =>
    obtain ⟨a, er⟩ := p
    obtain rfl : e = .returned (.tuple #[.slice none 0 0, .int .i64 a, .int .i64 er]) := hE
    have hne := hbad a er rfl
    have heb : (er == 0) = false := by simp [hne]
    have hen : (er != 0) = true := by rw [bne, heb]; rfl
    have HV := hide hpr
    have z0 := (ST1.out).z.c0
    have z1 := (ST1.out).z.c1
    have z2 := (ST1.out).z.c2
    have zz := (ST1.out).z.z
    have y0 := (ST1.out).y.c0
    have y1 := (ST1.out).y.c1
    have y2 := (ST1.out).y.c2
    have yz := (ST1.out).y.z
    simp only [noLn] at z0 z1 z2 y0 y1 y2
    clear hpr hbad hlen hne CO
    go_wp2_with fail
    refine bodyPost_ret (v := pairE PR) (by rw [HV.out]; simp [results, Tryz.results15, go_sem, z0, z1, z2, y0, y1, y2, pairE, lnA, noLn]) rfl ⟨rfl, below_two3 (ST1.out).bel (Nat.le_refl _) (by omega) _ _ _ _ _ _⟩
  | ok p =>
    obtain ⟨xs, j⟩ := p
    obtain ⟨u, rfl, hown⟩ := hE
    have hx := hlen xs j rfl
    obtain ⟨g, uc, rfl, hg0, hg1⟩ := own_some hown hx.1
    have hcell := fun j hj => hown.cellAt j hj
    have z0 := (ST1.out).z.c0
    have z1 := (ST1.out).z.c1
    have z2 := (ST1.out).z.c2
    have zz := (ST1.out).z.z
    have y0 := (ST1.out).y.c0
    have y1 := (ST1.out).y.c1
    have y2 := (ST1.out).y.c2
    have yz := (ST1.out).y.z
    simp only [noLn] at z0 z1 z2 y0 y1 y2
    have gz : ¬ g = w.heap.size := by omega
    have gy : ¬ g = w.heap.size + 1 := by omega
    clear hbad hlen
    obtain ⟨⟨⟨k, n⟩, s⟩, rfl⟩ | ⟨⟨⟨k, n⟩, s⟩, ⟨⟨k2, n2⟩, s2⟩, rfl⟩ : (∃ x, xs = [x]) ∨ (∃ x y, xs = [x, y]) := by
      match xs, hx with
      | [x], _ => exact .inl ⟨x, rfl⟩
      | [x, y], _ => exact .inr ⟨x, y, rfl⟩
      | _ :: _ :: _ :: _, h => simp at h
    · have r0 : w1.cell? ⟨g, 0, none⟩ = some (.int .i64 k) := hcell 0 (by simp)
      have r1 : w1.cell? ⟨g, 1, none⟩ = some (.int .i64 n) := hcell 1 (by simp)
      have r2 : w1.cell? ⟨g, 2, none⟩ = some (.string s) := hcell 2 (by simp)
      have hpr2 : PR = ((((k, n), s), otherL ((k, n), s)), j, 0) := hpr
      have co := unhide CO ((k, n), s)
      generalize otherL ((k, n), s) = ox at *
      obtain ⟨⟨k2, n2⟩, s2⟩ := ox
      unfold lnA at co
      simp only at co
      have C2 := hide co
      have HV := hide hpr2
      clear hpr hpr2 hcell hown hx co CO
      simp only [List.length_cons, List.length_nil, Nat.zero_add]
      go_upto_region 5 with fail
      have hzl := (ST1.out).z.lt
      have hyl := (ST1.out).y.lt
      go_region_with (first
        | (go_at_call 25; refine (unhide C2 _).mono ?_; rintro e w2 ⟨rfl, hb2⟩; have hb3 : Below w1.heap.size w1 w2 := (Below.refl _ w1).drew.trans hb2; have ST2 := hide ((ST1.out).next hb3); have q0 := (hb3.cell (p := ⟨g, 0, none⟩) hg1).trans r0; have q1 := (hb3.cell (p := ⟨g, 1, none⟩) hg1).trans r1; have q2 := (hb3.cell (p := ⟨g, 2, none⟩) hg1).trans r2; have t0 := (ST2.out).z.c0; have t1 := (ST2.out).z.c1; have t2 := (ST2.out).z.c2; have tz := (ST2.out).z.z; have s0 := (ST2.out).y.c0; have s1 := (ST2.out).y.c1; have s2' := (ST2.out).y.c2; have sz := (ST2.out).y.z; simp only [noLn] at t0 t1 t2 s0 s1 s2'; clear hb2 hb3))
      all_goals (
        go_wp2_with fail
        refine bodyPost_ret (v := pairE PR) (by rw [HV.out]; simp [results, Tryz.results15, go_sem, t0, t1, t2, s0, s1, s2', pairE, lnA]) rfl ⟨rfl, ?_⟩
        first
          | exact below_two3 (ST2.out).bel (Nat.le_refl _) (by omega) _ _ _ _ _ _
          | exact (below_two3 (ST2.out).bel (Nat.le_refl _) (by omega) _ _ _ _ _ _).drew
          | exact below_two3 (ST2.out).bel.drew (Nat.le_refl _) (by omega) _ _ _ _ _ _)
    · have r0 : w1.cell? ⟨g, 0, none⟩ = some (.int .i64 k) := hcell 0 (by simp)
      have r1 : w1.cell? ⟨g, 1, none⟩ = some (.int .i64 n) := hcell 1 (by simp)
      have r2 : w1.cell? ⟨g, 2, none⟩ = some (.string s) := hcell 2 (by simp)
      have r3 : w1.cell? ⟨g, 3, none⟩ = some (.int .i64 k2) := hcell 3 (by simp)
      have r4 : w1.cell? ⟨g, 4, none⟩ = some (.int .i64 n2) := hcell 4 (by simp)
      have r5 : w1.cell? ⟨g, 5, none⟩ = some (.string s2) := hcell 5 (by simp)
      have hpr2 : PR = ((((k, n), s), ((k2, n2), s2)), j, 0) := hpr
      have HV := hide hpr2
      clear hpr hpr2 hcell hown hx CO
      simp only [List.length_cons, List.length_nil, Nat.zero_add, Nat.reduceAdd]
      go_upto_region 6 with fail
      go_region
      go_wp2_with fail
      refine bodyPost_ret (v := pairE PR) (by rw [HV.out]; simp [results, Tryz.results15, go_sem, z0, z1, z2, y0, y1, y2, pairE, lnA]) rfl ⟨rfl, ?_⟩
      first
        | exact below_two3 (ST1.out).bel (Nat.le_refl _) (by omega) _ _ _ _ _ _
        | exact (below_two3 (ST1.out).bel (Nat.le_refl _) (by omega) _ _ _ _ _ _).drew
        | exact below_two3 (ST1.out).bel.drew (Nat.le_refl _) (by omega) _ _ _ _ _ _

end Go.Proofs.YtbnfggnklhfimaaGreatDoor

/- The developers' lines: Good. -/
namespace Go.Proofs.YtbnfggnklhfimaaGreatDoor
open Go.RowKit

set_option maxRecDepth 100000 in
set_option maxHeartbeats 8000000 in
theorem good7_any (x : LnD) (w : World) (hs : x.2.size ≤ 2000000) : Calls Tryz.prog 7 #[lnA x] w fun e w' => e = .returned (.bool (goodLn x)) ∧ Below w.heap.size w w' := by
  obtain ⟨⟨k, n⟩, s⟩ := x
  simp only at hs
  have hL := LnAt.new w k n s
  have hb := (Below.refl _ w).alloc (Nat.le_refl _) (.cells #[.int .i64 k, .int .i64 n, .string s] 23)
  have cc := custom_any s (w.alloc (.cells #[.int .i64 k, .int .i64 n, .string s] 23)) hs
  have hgd : goodLn ((k, n), s) = if k = 1 then decide (n = 0) && decide (s.size = 0) else if k = 2 then decide (¬ n = 0) && decide (-10000 ≤ n) && decide (n ≤ 10000) && (decide (s.size = 0) || customV s) else if k = 3 then decide (n = 0) && customV s else if k = 4 then decide (1 ≤ n) && decide (n ≤ 10000) && (decide (s.size = 0) || customV s) else false := rfl
  generalize goodLn ((k, n), s) = GV at *
  generalize customV s = CB at *
  have HGD := hide hgd
  have CC := hide cc
  have HL := hide hL
  have HB := hide hb
  have c2 := hL.c2
  simp only at c2
  unfold lnA
  clear hgd cc hL hb hs
  go_enter Tryz.func7, Tryz.ntmps7
  go_wp2_with fail
  refine Calls.mono CC.out ?_
  rintro e w1 ⟨rfl, hb1⟩
  have hL1 := (HL.out).below hb1 (HL.out).lt
  have d0 := hL1.c0
  have d1 := hL1.c1
  have d2 := hL1.c2
  simp only at d0 d1 d2
  have HB1 := hide ((HB.out).trans (hb1.mono (HB.out).size))
  have HL1 := hide hL1
  have ca : ∀ w, Calls Tryz.prog 18 #[] w fun e w' => e = .returned (.agg #[.int .i64 1, .int .i64 0, .string ⟨#[]⟩]) ∧ Below w.heap.size w w' := fun w => auto_any w
  have CA := hide ca
  clear hb1 hL1 HL HB CC c2 ca
  rcases empty_or7 s with rfl | ⟨hse, hsz, hie⟩
  · rcases eqk k 1 with ⟨h1, h1b⟩ | ⟨h1, h1b⟩
    · subst h1
      clear h1b
      rcases eqk n 0 with ⟨hn, hnb⟩ | ⟨hn, hnb⟩
      · subst hn
        have hv := HGD.out
        simp [show (⟨#[]⟩ : ByteArray).size = 0 from rfl] at hv
        have HV := hide hv
        clear hv HGD
        go_upto_region 5 with fail
        go_region_with (first
          | (go_at_call 18; refine (unhide CA _).mono ?_; rintro e w2 ⟨rfl, hb2⟩; have hb3 : Below w1.heap.size w1 w2 := (Below.refl _ w1).drew.trans hb2; have L2 := (HL1.out).below hb3 (HL1.out).lt; have t0 := L2.c0; have t1 := L2.c1; have t2 := L2.c2; simp only at t0 t1 t2; have HB2 := hide ((HB1.out).trans (hb3.mono (HB1.out).size)); clear hb2 hb3 L2))
        all_goals (
          go_wp2_with fail
          go_ret
          first | exact ⟨by rw [HV.out] <;> rfl, HB2.out⟩ | exact ⟨by rw [HV.out] <;> rfl, (HB2.out).drew⟩)
      · have hv := HGD.out
        simp [hn] at hv
        have HV := hide hv
        clear hv HGD
        go_upto_region 5 with fail
        go_region_with (first
          | (go_at_call 18; refine (unhide CA _).mono ?_; rintro e w2 ⟨rfl, hb2⟩; have hb3 : Below w1.heap.size w1 w2 := (Below.refl _ w1).drew.trans hb2; have L2 := (HL1.out).below hb3 (HL1.out).lt; have t0 := L2.c0; have t1 := L2.c1; have t2 := L2.c2; simp only at t0 t1 t2; have HB2 := hide ((HB1.out).trans (hb3.mono (HB1.out).size)); clear hb2 hb3 L2))
        all_goals (
          go_wp2_with fail
          go_ret
          first | exact ⟨by rw [HV.out] <;> rfl, HB2.out⟩ | exact ⟨by rw [HV.out] <;> rfl, (HB2.out).drew⟩)
    · rcases eqk k 2 with ⟨h2, h2b⟩ | ⟨h2, h2b⟩
      · subst h2
        clear h2b
        rcases eqk n 0 with ⟨hn, hnb⟩ | ⟨hn, hnb⟩
        · subst hn
          have hv := HGD.out
          simp at hv
          have HV := hide hv
          clear hv HGD
          go_wp2_with fail
          go_ret
          exact ⟨by rw [HV.out] <;> rfl, HB1.out⟩
        · have hnn : (n != 0) = true := by rw [bne, hnb]; rfl
          by_cases hlo : -10000 ≤ n
          · by_cases hhi : n ≤ 10000
            · have hv := HGD.out
              simp [hn, hlo, hhi, show (⟨#[]⟩ : ByteArray).size = 0 from rfl] at hv
              have HV := hide hv
              clear hv HGD
              go_wp2_with fail
              go_ret
              exact ⟨by rw [HV.out] <;> rfl, HB1.out⟩
            · have hv := HGD.out
              simp [hhi] at hv
              have HV := hide hv
              clear hv HGD
              go_wp2_with fail
              go_ret
              exact ⟨by rw [HV.out] <;> rfl, HB1.out⟩
          · have hv := HGD.out
            simp [hlo] at hv
            have HV := hide hv
            clear hv HGD
            go_wp2_with fail
            go_ret
            exact ⟨by rw [HV.out] <;> rfl, HB1.out⟩
      · rcases eqk k 3 with ⟨h3, h3b⟩ | ⟨h3, h3b⟩
        · subst h3
          clear h3b
          rcases eqk n 0 with ⟨hn, hnb⟩ | ⟨hn, hnb⟩
          · subst hn
            cases CB
            · have hv := HGD.out
              simp at hv
              have HV := hide hv
              clear hv HGD
              go_wp2_with fail
              go_ret
              exact ⟨by rw [HV.out] <;> rfl, HB1.out⟩
            · have hv := HGD.out
              simp at hv
              have HV := hide hv
              clear hv HGD
              go_wp2_with fail
              go_ret
              exact ⟨by rw [HV.out] <;> rfl, HB1.out⟩
          · have hv := HGD.out
            simp [hn] at hv
            have HV := hide hv
            clear hv HGD
            go_wp2_with fail
            go_ret
            exact ⟨by rw [HV.out] <;> rfl, HB1.out⟩
        · rcases eqk k 4 with ⟨h4, h4b⟩ | ⟨h4, h4b⟩
          · subst h4
            clear h4b
            by_cases hlo : 1 ≤ n
            · by_cases hhi : n ≤ 10000
              · have hv := HGD.out
                simp [hlo, hhi, show (⟨#[]⟩ : ByteArray).size = 0 from rfl] at hv
                have HV := hide hv
                clear hv HGD
                go_wp2_with fail
                go_ret
                exact ⟨by rw [HV.out] <;> rfl, HB1.out⟩
              · have hv := HGD.out
                simp [hhi] at hv
                have HV := hide hv
                clear hv HGD
                go_wp2_with fail
                go_ret
                exact ⟨by rw [HV.out] <;> rfl, HB1.out⟩
            · have hv := HGD.out
              simp [hlo] at hv
              have HV := hide hv
              clear hv HGD
              go_wp2_with fail
              go_ret
              exact ⟨by rw [HV.out] <;> rfl, HB1.out⟩
          · have hv := HGD.out
            simp [h1, h2, h3, h4] at hv
            have HV := hide hv
            clear hv HGD
            go_wp2_with fail
            go_ret
            exact ⟨by rw [HV.out] <;> rfl, HB1.out⟩
  · rcases eqk k 1 with ⟨h1, h1b⟩ | ⟨h1, h1b⟩
    · subst h1
      clear h1b
      rcases eqk n 0 with ⟨hn, hnb⟩ | ⟨hn, hnb⟩
      · subst hn
        have hv := HGD.out
        simp [hsz] at hv
        have HV := hide hv
        clear hv HGD
        go_upto_region 5 with fail
        go_region_with (first
          | (go_at_call 18; refine (unhide CA _).mono ?_; rintro e w2 ⟨rfl, hb2⟩; have hb3 : Below w1.heap.size w1 w2 := (Below.refl _ w1).drew.trans hb2; have L2 := (HL1.out).below hb3 (HL1.out).lt; have t0 := L2.c0; have t1 := L2.c1; have t2 := L2.c2; simp only at t0 t1 t2; have HB2 := hide ((HB1.out).trans (hb3.mono (HB1.out).size)); clear hb2 hb3 L2))
        all_goals (
          go_wp2_with fail
          go_ret
          first | exact ⟨by rw [HV.out] <;> rfl, HB2.out⟩ | exact ⟨by rw [HV.out] <;> rfl, (HB2.out).drew⟩)
      · have hv := HGD.out
        simp [hn] at hv
        have HV := hide hv
        clear hv HGD
        go_upto_region 5 with fail
        go_region_with (first
          | (go_at_call 18; refine (unhide CA _).mono ?_; rintro e w2 ⟨rfl, hb2⟩; have hb3 : Below w1.heap.size w1 w2 := (Below.refl _ w1).drew.trans hb2; have L2 := (HL1.out).below hb3 (HL1.out).lt; have t0 := L2.c0; have t1 := L2.c1; have t2 := L2.c2; simp only at t0 t1 t2; have HB2 := hide ((HB1.out).trans (hb3.mono (HB1.out).size)); clear hb2 hb3 L2))
        all_goals (
          go_wp2_with fail
          go_ret
          first | exact ⟨by rw [HV.out] <;> rfl, HB2.out⟩ | exact ⟨by rw [HV.out] <;> rfl, (HB2.out).drew⟩)
    · rcases eqk k 2 with ⟨h2, h2b⟩ | ⟨h2, h2b⟩
      · subst h2
        clear h2b
        rcases eqk n 0 with ⟨hn, hnb⟩ | ⟨hn, hnb⟩
        · subst hn
          have hv := HGD.out
          simp at hv
          have HV := hide hv
          clear hv HGD
          go_wp2_with fail
          go_ret
          exact ⟨by rw [HV.out] <;> rfl, HB1.out⟩
        · have hnn : (n != 0) = true := by rw [bne, hnb]; rfl
          by_cases hlo : -10000 ≤ n
          · by_cases hhi : n ≤ 10000
            · cases CB
              · have hv := HGD.out
                simp [hn, hlo, hhi, hsz] at hv
                have HV := hide hv
                clear hv HGD
                go_wp2_with fail
                go_ret
                exact ⟨by rw [HV.out] <;> rfl, HB1.out⟩
              · have hv := HGD.out
                simp [hn, hlo, hhi] at hv
                have HV := hide hv
                clear hv HGD
                go_wp2_with fail
                go_ret
                exact ⟨by rw [HV.out] <;> rfl, HB1.out⟩
            · have hv := HGD.out
              simp [hhi] at hv
              have HV := hide hv
              clear hv HGD
              go_wp2_with fail
              go_ret
              exact ⟨by rw [HV.out] <;> rfl, HB1.out⟩
          · have hv := HGD.out
            simp [hlo] at hv
            have HV := hide hv
            clear hv HGD
            go_wp2_with fail
            go_ret
            exact ⟨by rw [HV.out] <;> rfl, HB1.out⟩
      · rcases eqk k 3 with ⟨h3, h3b⟩ | ⟨h3, h3b⟩
        · subst h3
          clear h3b
          rcases eqk n 0 with ⟨hn, hnb⟩ | ⟨hn, hnb⟩
          · subst hn
            cases CB
            · have hv := HGD.out
              simp at hv
              have HV := hide hv
              clear hv HGD
              go_wp2_with fail
              go_ret
              exact ⟨by rw [HV.out] <;> rfl, HB1.out⟩
            · have hv := HGD.out
              simp at hv
              have HV := hide hv
              clear hv HGD
              go_wp2_with fail
              go_ret
              exact ⟨by rw [HV.out] <;> rfl, HB1.out⟩
          · have hv := HGD.out
            simp [hn] at hv
            have HV := hide hv
            clear hv HGD
            go_wp2_with fail
            go_ret
            exact ⟨by rw [HV.out] <;> rfl, HB1.out⟩
        · rcases eqk k 4 with ⟨h4, h4b⟩ | ⟨h4, h4b⟩
          · subst h4
            clear h4b
            by_cases hlo : 1 ≤ n
            · by_cases hhi : n ≤ 10000
              · cases CB
                · have hv := HGD.out
                  simp [hlo, hhi, hsz] at hv
                  have HV := hide hv
                  clear hv HGD
                  go_wp2_with fail
                  go_ret
                  exact ⟨by rw [HV.out] <;> rfl, HB1.out⟩
                · have hv := HGD.out
                  simp [hlo, hhi] at hv
                  have HV := hide hv
                  clear hv HGD
                  go_wp2_with fail
                  go_ret
                  exact ⟨by rw [HV.out] <;> rfl, HB1.out⟩
              · have hv := HGD.out
                simp [hhi] at hv
                have HV := hide hv
                clear hv HGD
                go_wp2_with fail
                go_ret
                exact ⟨by rw [HV.out] <;> rfl, HB1.out⟩
            · have hv := HGD.out
              simp [hlo] at hv
              have HV := hide hv
              clear hv HGD
              go_wp2_with fail
              go_ret
              exact ⟨by rw [HV.out] <;> rfl, HB1.out⟩
          · have hv := HGD.out
            simp [h1, h2, h3, h4] at hv
            have HV := hide hv
            clear hv HGD
            go_wp2_with fail
            go_ret
            exact ⟨by rw [HV.out] <;> rfl, HB1.out⟩

end Go.Proofs.YtbnfggnklhfimaaGreatDoor

/- The developers' lines: their texts. -/
namespace Go.Proofs.YtbnfggnklhfimaaGreatDoor
open Go.RowKit

/-- What the tables of this layer say. -/
structure LE (w : World) : Prop where
  mx : MaxAt w
  tz : TZ w
  tab : Tab w

theorem LE.below {w w' : World} (h : LE w) (hb : Below w.heap.size w w') : LE w' := ⟨h.mx.below hb, h.tz.below hb, h.tab.below hb⟩

theorem textOne7 {n : Int} (h0 : -10000 ≤ n) (h1 : n ≤ 10000) : textV n 1 = itB n := by
  have hl : isLen n = true := by simp [isLen]; omega
  have hs : isSc 1 = true := by decide
  unfold textV
  rw [hl, hs, if_neg (by simp), if_neg (by simp)]
  have hx : ∀ (p : ByteArray) (a : Int), txt p a 1 = p ++ itB a := fun p a => by
    unfold txt
    rw [Int.emod_one, if_neg (by omega), tl_zero, Int.ediv_one]
  rw [hx, hx]
  by_cases hn : n < 0
  · rw [if_pos hn]
    apply ba_ext'
    unfold itB Lib.itoa
    rw [if_pos hn, if_neg (by omega)]
    simp
    rw [show (-n).toNat = n.natAbs by omega]
  · rw [if_neg hn]
    apply ba_ext'
    simp

theorem write_nz {s : ByteArray} (h : customV s = true) : ¬ (writeV s).size = 0 := by
  have hn := cuB_name (r := 7) h
  have ht := (tok_write hn).1
  intro h0
  have he : writeV s = ⟨#[]⟩ := by
    rcases empty_or7 (writeV s) with h | h
    · exact h
    · exact absurd h0 h.2.1
  rw [he] at ht
  have h2 : tokV ⟨#[]⟩ = .ok [(⟨8, ⟨#[]⟩, ⟨#[]⟩⟩, 0)] := by kernel_rfl
  rw [h2] at ht
  simp at ht

theorem write_z : (writeV ⟨#[]⟩).size = 0 := by decide +kernel

/-- The text of a number, and of a name. -/
def numT (x : LnD) : ByteArray := if x.2.size = 0 then itB x.1.2 else itB x.1.2 ++ (⟨#[32]⟩ ++ writeV x.2)

def spT (x : LnD) : ByteArray := if x.1.2 = 1 ∧ ¬ x.2.size = 0 then writeV x.2 else numT x

theorem good_name {x : LnD} (hg : goodLn x = true) : (x.2 = ⟨#[]⟩ ∧ (writeV x.2).size = 0) ∨ (¬ x.2.size = 0 ∧ ¬ (writeV x.2).size = 0) := by
  rcases empty_or7 x.2 with h | ⟨_, h, _⟩
  · left; rw [h]; exact ⟨rfl, write_z⟩
  · right
    refine ⟨h, write_nz ?_⟩
    unfold goodLn at hg
    split at hg
    · simp at hg; rw [hg.2] at h; exact absurd rfl h
    · split at hg
      · simp [h] at hg
        exact hg.2
      · split at hg
        · simp at hg; exact hg.2
        · split at hg
          · simp [h] at hg
            exact hg.2
          · cases hg

theorem textLn_dev {x : LnD} (hg : goodLn x = true) : textLn x = if x.1.1 = 2 then numT x else if x.1.1 = 3 then writeV x.2 else if x.1.1 = 4 then ⟨#[115, 112, 97, 110, 32]⟩ ++ spT x else ⟨#[97, 117, 116, 111]⟩ := by
  have hn := goodLn_num hg
  have ho := textOne7 hn.1 hn.2
  have hk := goodLn_kinds hg
  unfold textLn
  rw [hg, if_neg (by simp), ho]
  rcases good_name hg with ⟨h1, h2⟩ | ⟨h1, h2⟩
  · have h0 : x.2.size = 0 := by rw [h1]; rfl
    have h3 : numT x = itB x.1.2 := by unfold numT; rw [if_pos h0]
    have h4 : spT x = itB x.1.2 := by unfold spT; rw [if_neg (fun h => h.2 h0), h3]
    rw [h3, h4]
    rcases hk with hk | hk | hk | hk <;> simp [hk, h2]
  · have h3 : numT x = itB x.1.2 ++ (⟨#[32]⟩ ++ writeV x.2) := by unfold numT; rw [if_neg h1]
    by_cases h5 : x.1.2 = 1
    · have h4 : spT x = writeV x.2 := by unfold spT; rw [if_pos ⟨h5, h1⟩]
      rw [h3, h4]
      rcases hk with hk | hk | hk | hk <;> simp [hk, h2, h5, ByteArray.append_assoc]
    · have h4 : spT x = itB x.1.2 ++ (⟨#[32]⟩ ++ writeV x.2) := by unfold spT; rw [if_neg (fun h => h5 h.1), h3]
      rw [h3, h4]
      rcases hk with hk | hk | hk | hk <;> simp [hk, h2, h5, ByteArray.append_assoc]

theorem itB_small {n : Int} (h0 : -10000 ≤ n) (h1 : n ≤ 10000) : (itB n).size ≤ 30 := by rw [← textOne7 h0 h1]; exact txt_small h0 h1

theorem numT_size {x : LnD} (h0 : -10000 ≤ x.1.2) (h1 : x.1.2 ≤ 10000) (hs : x.2.size ≤ 2000000) : (numT x).size ≤ 20000000 ∧ (spT x).size ≤ 20000000 := by
  have ha := itB_small h0 h1
  have hw := write_size hs
  have e1 : (⟨#[32]⟩ : ByteArray).size = 1 := rfl
  have hn : (numT x).size ≤ 20000000 := by
    unfold numT
    split
    · omega
    · simp only [ByteArray.size_append, e1]; omega
  refine ⟨hn, ?_⟩
  unfold spT
  split
  · omega
  · exact hn

set_option maxRecDepth 100000 in
set_option maxHeartbeats 4000000 in
theorem numbered7_any (x : LnD) (w : World) (hw : LE w) (h0 : -10000 ≤ x.1.2) (h1 : x.1.2 ≤ 10000) (hs : x.2.size ≤ 2000000) :
    Calls Tryz.prog 20 #[lnA x] w fun e w' => e = .returned (.string (numT x)) ∧ Below w.heap.size w w' := by
  have hws := write_size hs
  have his := itB_small h0 h1
  have hnt : numT x = if x.2.size = 0 then itB x.1.2 else itB x.1.2 ++ (⟨#[32]⟩ ++ writeV x.2) := rfl
  obtain ⟨⟨k, n⟩, s⟩ := x
  simp only at hs h0 h1 hws his hnt
  have hL := LnAt.new w k n s
  have hb := (Below.refl _ w).alloc (Nat.le_refl _) (.cells #[.int .i64 k, .int .i64 n, .string s] 23)
  have hE := hw.below hb
  have ci := fun w (h : LE w) => itoa_any n (by omega) (by omega) w h.tab
  have cw := fun w (h : LE w) => write_any s w h.tz
  generalize numT ((k, n), s) = NT at *
  generalize itB n = IT at *
  generalize writeV s = WV at *
  have HNT := hide hnt
  have CI := hide ci
  have CW := hide cw
  have HL := hide hL
  have HB := hide hb
  have HE := hide hE
  have d1 := hL.c1
  simp only at d1
  have hl1 : ¬ 9223372036854775807 < 1 + WV.size := by omega
  have hl2 : ¬ 9223372036854775807 < IT.size + (1 + WV.size) := by omega
  unfold lnA
  clear hnt ci cw hL hb hE hs hw hws his h0 h1
  go_enter Tryz.func20, Tryz.ntmps20
  go_upto_region 1 with fail
  generalize w.alloc (.cells #[.int .i64 k, .int .i64 n, .string s] 23) = w1 at *
  go_wp2_with fail
  refine Calls.mono (unhide CI _ HE.out) ?_
  rintro e w2 ⟨rfl, hb⟩
  have HE2 := hide ((HE.out).below hb)
  have HL2 := hide ((HL.out).below hb (HL.out).lt)
  have HB2 := hide ((HB.out).trans (hb.mono (HB.out).size))
  have d2 := (HL2.out).c2
  simp only at d2
  clear hb d1 HE HL HB CI
  rcases empty_or7 s with rfl | ⟨hne, hsz, hie⟩
  · have hv := HNT.out
    rw [if_pos (show (⟨#[]⟩ : ByteArray).size = 0 from rfl)] at hv
    have HV := hide hv
    clear hv HNT
    go_wp2_with fail
    go_ret
    exact ⟨by rw [HV.out] <;> rfl, HB2.out⟩
  · have hv := HNT.out
    rw [if_neg hsz] at hv
    have HV := hide hv
    clear hv HNT hsz
    go_wp2_with fail
    refine Calls.mono (unhide CW _ HE2.out) ?_
    rintro e w3 ⟨rfl, hb⟩
    have HB3 := hide ((HB2.out).trans (hb.mono (HB2.out).size))
    clear hb d2 HE2 HL2 HB2 CW
    go_wp2_with fail
    go_ret
    exact ⟨by rw [HV.out] <;> rfl, HB3.out⟩

set_option maxRecDepth 100000 in
set_option maxHeartbeats 4000000 in
theorem spanned7_any (x : LnD) (w : World) (hw : LE w) (h0 : -10000 ≤ x.1.2) (h1 : x.1.2 ≤ 10000) (hs : x.2.size ≤ 2000000) :
    Calls Tryz.prog 22 #[lnA x] w fun e w' => e = .returned (.string (spT x)) ∧ Below w.heap.size w w' := by
  have hnt : spT x = if x.1.2 = 1 ∧ ¬ x.2.size = 0 then writeV x.2 else numT x := rfl
  have cn := fun w (h : LE w) => numbered7_any x w h h0 h1 hs
  obtain ⟨⟨k, n⟩, s⟩ := x
  simp only at hs h0 h1 hnt
  have hL := LnAt.new w k n s
  have hb := (Below.refl _ w).alloc (Nat.le_refl _) (.cells #[.int .i64 k, .int .i64 n, .string s] 23)
  have hE := hw.below hb
  have cw := fun w (h : LE w) => write_any s w h.tz
  unfold lnA at cn
  generalize spT ((k, n), s) = ST at *
  generalize numT ((k, n), s) = NT at *
  generalize writeV s = WV at *
  have HNT := hide hnt
  have CN := hide cn
  have CW := hide cw
  have HL := hide hL
  have HB := hide hb
  have HE := hide hE
  have d0 := hL.c0
  have d1 := hL.c1
  have d2 := hL.c2
  simp only at d0 d1 d2
  unfold lnA
  clear hnt cn cw hL hb hE hs hw h0 h1
  go_enter Tryz.func22, Tryz.ntmps22
  go_upto_region 1 with fail
  generalize w.alloc (.cells #[.int .i64 k, .int .i64 n, .string s] 23) = w1 at *
  rcases eqk n 1 with ⟨hn, hnb⟩ | ⟨hn, hnb⟩
  · subst hn
    clear hnb
    rcases empty_or7 s with rfl | ⟨hne, hsz, hie⟩
    · have hv := HNT.out
      rw [if_neg (fun h => h.2 rfl)] at hv
      have HV := hide hv
      clear hv HNT
      go_wp2_with fail
      refine Calls.mono (unhide CN _ HE.out) ?_
      rintro e w2 ⟨rfl, hb⟩
      have HB2 := hide ((HB.out).trans (hb.mono (HB.out).size))
      clear hb d0 d1 d2
      go_wp2_with fail
      go_ret
      exact ⟨by rw [HV.out] <;> rfl, HB2.out⟩
    · have hv := HNT.out
      rw [if_pos ⟨rfl, hsz⟩] at hv
      have HV := hide hv
      clear hv HNT hsz
      go_wp2_with fail
      refine Calls.mono (unhide CW _ HE.out) ?_
      rintro e w2 ⟨rfl, hb⟩
      have HB2 := hide ((HB.out).trans (hb.mono (HB.out).size))
      clear hb d0 d1 d2
      go_wp2_with fail
      go_ret
      exact ⟨by rw [HV.out] <;> rfl, HB2.out⟩
  · have hv := HNT.out
    rw [if_neg (fun h => hn h.1)] at hv
    have HV := hide hv
    clear hv HNT hn
    go_wp2_with fail
    refine Calls.mono (unhide CN _ HE.out) ?_
    rintro e w2 ⟨rfl, hb⟩
    have HB2 := hide ((HB.out).trans (hb.mono (HB.out).size))
    clear hb d0 d1 d2
    go_wp2_with fail
    go_ret
    exact ⟨by rw [HV.out] <;> rfl, HB2.out⟩

set_option maxRecDepth 100000 in
set_option maxHeartbeats 4000000 in
theorem text7_any (x : LnD) (w : World) (hw : LE w) (hs : x.2.size ≤ 2000000) : Calls Tryz.prog 9 #[lnA x] w fun e w' => e = .returned (.string (textLn x)) ∧ Below w.heap.size w w' := by
  have cg := fun w => good7_any x w hs
  have htd := @textLn_dev x
  have htb : goodLn x = false → textLn x = ⟨#[]⟩ := fun h => by unfold textLn; rw [if_pos h]
  have hgn := @goodLn_num x
  have cn := fun (h : goodLn x = true) w (hE : LE w) => numbered7_any x w hE (hgn h).1 (hgn h).2 hs
  have cp := fun (h : goodLn x = true) w (hE : LE w) => spanned7_any x w hE (hgn h).1 (hgn h).2 hs
  have hsz := fun (h : goodLn x = true) => (numT_size (hgn h).1 (hgn h).2 hs).2
  obtain ⟨⟨k, n⟩, s⟩ := x
  have hL := LnAt.new w k n s
  have hb := (Below.refl _ w).alloc (Nat.le_refl _) (.cells #[.int .i64 k, .int .i64 n, .string s] 23)
  have hE := hw.below hb
  have cw := fun w (h : LE w) => write_any s w h.tz
  unfold lnA at cn cg cp
  simp only at htd
  generalize textLn ((k, n), s) = TX at *
  generalize numT ((k, n), s) = NT at *
  generalize spT ((k, n), s) = PT at *
  generalize goodLn ((k, n), s) = GV at *
  generalize writeV s = WV at *
  have CG := hide cg
  have CN := hide cn
  have CP := hide cp
  have CW := hide cw
  have HTD := hide htd
  have HTB := hide htb
  have HSZ := hide hsz
  have HL := hide hL
  have HB := hide hb
  have HE := hide hE
  have d0 := hL.c0
  have d1 := hL.c1
  have d2 := hL.c2
  simp only at d0 d1 d2
  unfold lnA
  clear cg htd htb hgn cn cp cw hsz hL hb hE hs hw
  go_enter Tryz.func9, Tryz.ntmps9
  go_upto_region 1 with fail
  generalize w.alloc (.cells #[.int .i64 k, .int .i64 n, .string s] 23) = w1 at *
  go_wp2_with fail
  refine Calls.mono (unhide CG _) ?_
  rintro e w2 ⟨rfl, hb⟩
  have HE2 := hide ((HE.out).below hb)
  have HL2 := hide ((HL.out).below hb (HL.out).lt)
  have HB2 := hide ((HB.out).trans (hb.mono (HB.out).size))
  clear hb d0 d1 d2 HE HL HB CG
  have d0 := (HL2.out).c0
  have d1 := (HL2.out).c1
  have d2 := (HL2.out).c2
  simp only at d0 d1 d2
  cases GV
  · have hv := (HTB.out) rfl
    have HV := hide hv
    clear hv HTB HTD HSZ CN CP
    go_wp2_with fail
    go_ret
    exact ⟨by rw [HV.out] <;> rfl, HB2.out⟩
  · have hv := (HTD.out) rfl
    have hz := (HSZ.out) rfl
    have cn := (CN.out) rfl
    have cp := (CP.out) rfl
    have CN2 := hide cn
    have CP2 := hide cp
    have hl1 : ¬ 9223372036854775807 < 5 + PT.size := by omega
    clear HTB HTD HSZ CN CP cn cp hz
    rcases eqk k 2 with ⟨h2, h2b⟩ | ⟨h2, h2b⟩
    · subst h2
      rw [if_pos rfl] at hv
      have HV := hide hv
      clear hv h2b
      go_wp2_with fail
      refine Calls.mono (unhide CN2 _ HE2.out) ?_
      rintro e w3 ⟨rfl, hb⟩
      have HB3 := hide ((HB2.out).trans (hb.mono (HB2.out).size))
      clear hb d0 d1 d2
      go_wp2_with fail
      go_ret
      exact ⟨by rw [HV.out] <;> rfl, HB3.out⟩
    · rw [if_neg h2] at hv
      clear h2
      rcases eqk k 3 with ⟨h3, h3b⟩ | ⟨h3, h3b⟩
      · subst h3
        rw [if_pos rfl] at hv
        have HV := hide hv
        clear hv h3b h2b
        go_wp2_with fail
        refine Calls.mono (unhide CW _ HE2.out) ?_
        rintro e w3 ⟨rfl, hb⟩
        have HB3 := hide ((HB2.out).trans (hb.mono (HB2.out).size))
        clear hb d0 d1 d2
        go_wp2_with fail
        go_ret
        exact ⟨by rw [HV.out] <;> rfl, HB3.out⟩
      · rw [if_neg h3] at hv
        clear h3
        rcases eqk k 4 with ⟨h4, h4b⟩ | ⟨h4, h4b⟩
        · subst h4
          rw [if_pos rfl] at hv
          have HV := hide hv
          clear hv h3b h2b h4b
          go_wp2_with fail
          refine Calls.mono (unhide CP2 _ HE2.out) ?_
          rintro e w3 ⟨rfl, hb⟩
          have HB3 := hide ((HB2.out).trans (hb.mono (HB2.out).size))
          clear hb d0 d1 d2
          go_wp2_with fail
          go_ret
          exact ⟨by rw [HV.out] <;> rfl, HB3.out⟩
        · rw [if_neg h4] at hv
          have HV := hide hv
          clear hv h4
          go_wp2_with fail
          go_ret
          exact ⟨by rw [HV.out] <;> rfl, HB2.out⟩

end Go.Proofs.YtbnfggnklhfimaaGreatDoor

/- The developers' lines: the text of two. -/
namespace Go.Proofs.YtbnfggnklhfimaaGreatDoor
open Go.RowKit

/-- Two lines lie in their boxes. -/
structure PdSt (w wr : World) (a b : LnD) : Prop where
  la : LnAt wr w.heap.size a
  lb : LnAt wr (w.heap.size + 1) b
  bel : Below w.heap.size w wr
  env : LE wr

theorem PdSt.next {w w1 w2 : World} {a b : LnD} (h : PdSt w w1 a b) (hb : Below w1.heap.size w1 w2) : PdSt w w2 a b := ⟨h.la.below hb h.la.lt, h.lb.below hb h.lb.lt, h.bel.trans (hb.mono h.bel.size), h.env.below hb⟩

set_option maxRecDepth 100000 in
set_option maxHeartbeats 16000000 in
theorem pairText7_any (a b : LnD) (w : World) (hw : LE w) (ha : a.2.size ≤ 2000000) (hb : b.2.size ≤ 2000000) : Calls Tryz.prog 11 #[lnA a, lnA b] w fun e w' => e = .returned (.string (pairTextLn a b)) ∧ Below w.heap.size w w' := by
  have hpt : pairTextLn a b = if goodLn a = false then ⟨#[]⟩ else if goodLn b = false then ⟨#[]⟩ else if b = otherL a then textLn a else textLn a ++ ⟨#[32, 47, 32]⟩ ++ textLn b := rfl
  have cga := fun w => good7_any a w ha
  have cgb := fun w => good7_any b w hb
  have cta := fun w h => text7_any a w h ha
  have ctb := fun w h => text7_any b w h hb
  have co := fun w => opposite_any a w
  have hsa := textLn_size ha
  have hsb := textLn_size hb
  obtain ⟨⟨k, n⟩, s⟩ := a
  obtain ⟨⟨k2, n2⟩, s2⟩ := b
  have h1 := LnAt.new w k n s
  have b1 := (Below.refl _ w).alloc (Nat.le_refl _) (.cells #[.int .i64 k, .int .i64 n, .string s] 23)
  have b2 := (Below.refl _ (w.alloc (.cells #[.int .i64 k, .int .i64 n, .string s] 23))).alloc (Nat.le_refl _) (.cells #[.int .i64 k2, .int .i64 n2, .string s2] 23)
  have h2 := LnAt.new (w.alloc (.cells #[.int .i64 k, .int .i64 n, .string s] 23)) k2 n2 s2
  rw [World.size_alloc] at h2
  have ST0 : Hid (PdSt w ((w.alloc (.cells #[.int .i64 k, .int .i64 n, .string s] 23)).alloc (.cells #[.int .i64 k2, .int .i64 n2, .string s2] 23)) ((k, n), s) ((k2, n2), s2)) := hide ⟨h1.below b2 h1.lt, h2, b1.trans (b2.mono b1.size), hw.below (b1.trans (b2.mono b1.size))⟩
  generalize pairTextLn ((k, n), s) ((k2, n2), s2) = PT at *
  generalize goodLn ((k, n), s) = GA at *
  generalize goodLn ((k2, n2), s2) = GB at *
  generalize textLn ((k, n), s) = TA at *
  generalize textLn ((k2, n2), s2) = TB at *
  generalize otherL ((k, n), s) = OX at *
  obtain ⟨⟨ok, on⟩, os⟩ := OX
  unfold lnA at cga cgb cta ctb co ⊢
  simp only at cga cgb cta ctb co ⊢
  have hl1 : ¬ 9223372036854775807 < TA.size + 3 := by omega
  have hl2 : ¬ 9223372036854775807 < TA.size + 3 + TB.size := by omega
  have HPT := hide hpt
  have CGA := hide cga
  have CGB := hide cgb
  have CTA := hide cta
  have CTB := hide ctb
  have CO := hide co
  clear hpt cga cgb cta ctb co h1 h2 b1 b2 ha hb
  go_enter Tryz.func11, Tryz.ntmps11
  go_upto_region 1 with fail
  generalize ((w.alloc (.cells #[.int .i64 k, .int .i64 n, .string s] 23)).alloc (.cells #[.int .i64 k2, .int .i64 n2, .string s2] 23)) = w0 at *
  have a0 := (ST0.out).la.c0
  have a1 := (ST0.out).la.c1
  have a2 := (ST0.out).la.c2
  have c0 := (ST0.out).lb.c0
  have c1 := (ST0.out).lb.c1
  have c2 := (ST0.out).lb.c2
  simp only at a0 a1 a2 c0 c1 c2
  go_wp2_with fail
  refine Calls.mono (unhide CGA _) ?_
  rintro e w1 ⟨rfl, hb⟩
  have ST1 := hide ((ST0.out).next hb)
  clear hb ST0 CGA a0 a1 a2 c0 c1 c2
  have a0 := (ST1.out).la.c0
  have a1 := (ST1.out).la.c1
  have a2 := (ST1.out).la.c2
  have c0 := (ST1.out).lb.c0
  have c1 := (ST1.out).lb.c1
  have c2 := (ST1.out).lb.c2
  simp only at a0 a1 a2 c0 c1 c2
  cases GA
  · have hv := HPT.out
    rw [if_pos rfl] at hv
    have HV := hide hv
    clear hv HPT
    go_wp2_with fail
    go_ret
    exact ⟨by rw [HV.out] <;> rfl, (ST1.out).bel⟩
  · have hpt := HPT.out
    rw [if_neg (by simp)] at hpt
    have HPT2 := hide hpt
    clear hpt HPT
    go_wp2_with fail
    refine Calls.mono (unhide CGB _) ?_
    rintro e w2 ⟨rfl, hb⟩
    have ST2 := hide ((ST1.out).next hb)
    clear hb ST1 CGB a0 a1 a2 c0 c1 c2
    cases GB
    · have hv := HPT2.out
      rw [if_pos rfl] at hv
      have HV := hide hv
      clear hv HPT2
      go_wp2_with fail
      go_ret
      exact ⟨by rw [HV.out] <;> rfl, (ST2.out).bel⟩
    · have hpt := HPT2.out
      rw [if_neg (by simp)] at hpt
      have HPT3 := hide hpt
      clear hpt HPT2
      have cox : ∀ w', PdSt w w' ((k, n), s) ((k2, n2), s2) → Calls Tryz.prog 25 #[.agg #[.int .i64 k, .int .i64 n, .string s]] w' fun e w'' => e = .returned (.agg #[.int .i64 ok, .int .i64 on, .string os]) ∧ PdSt w w'' ((k, n), s) ((k2, n2), s2) := fun w' h => (unhide CO w').mono fun _ _ hh => ⟨hh.1, h.next hh.2⟩
      have ctx : ∀ w', PdSt w w' ((k, n), s) ((k2, n2), s2) → Calls Tryz.prog 9 #[.agg #[.int .i64 k, .int .i64 n, .string s]] w' fun e w'' => e = .returned (.string TA) ∧ PdSt w w'' ((k, n), s) ((k2, n2), s2) := fun w' h => (unhide CTA w' h.env).mono fun _ _ hh => ⟨hh.1, h.next hh.2⟩
      have cty : ∀ w', PdSt w w' ((k, n), s) ((k2, n2), s2) → Calls Tryz.prog 9 #[.agg #[.int .i64 k2, .int .i64 n2, .string s2]] w' fun e w'' => e = .returned (.string TB) ∧ PdSt w w'' ((k, n), s) ((k2, n2), s2) := fun w' h => (unhide CTB w' h.env).mono fun _ _ hh => ⟨hh.1, h.next hh.2⟩
      have COX := hide cox
      have CTX := hide ctx
      have CTY := hide cty
      clear cox ctx cty CO CTB
      rcases eqk k2 ok with ⟨hk, hkb⟩ | ⟨hk, hkb⟩
      · subst hk
        rcases eqk n2 on with ⟨hn, hnb⟩ | ⟨hn, hnb⟩
        · subst hn
          by_cases hs : s2 = os
          · subst hs
            have hv := HPT3.out
            rw [if_pos rfl] at hv
            have HV := hide hv
            clear hv HPT3
            go_upto_region 3 with fail
            have STd : Hid (PdSt w w2.drew ((k, n), s) ((k2, n2), s2)) := hide ((ST2.out).next (Below.refl _ w2).drew)
            have a0 := (STd.out).la.c0
            have a1 := (STd.out).la.c1
            have a2 := (STd.out).la.c2
            have c0 := (STd.out).lb.c0
            have c1 := (STd.out).lb.c1
            have c2 := (STd.out).lb.c2
            simp only at a0 a1 a2 c0 c1 c2
            clear ST2
            go_region_held3 (fun w' => w'.cell? ⟨w.heap.size, 0, none⟩ = some (.int .i64 k) ∧ w'.cell? ⟨w.heap.size, 1, none⟩ = some (.int .i64 n) ∧ w'.cell? ⟨w.heap.size, 2, none⟩ = some (.string s) ∧ w'.cell? ⟨w.heap.size + 1, 0, none⟩ = some (.int .i64 k2) ∧ w'.cell? ⟨w.heap.size + 1, 1, none⟩ = some (.int .i64 n2) ∧ w'.cell? ⟨w.heap.size + 1, 2, none⟩ = some (.string s2) ∧ Hid (PdSt w w' ((k, n), s) ((k2, n2), s2)))
              (first | exact ⟨by assumption, by assumption, by assumption, by assumption, by assumption, by assumption, by assumption⟩ | go_keep)
              (first
                | (go_at_call 25; refine (unhide COX _ (by assumption : Hid (PdSt w _ ((k, n), s) ((k2, n2), s2))).out).mono ?_; rintro e w' ⟨rfl, hq⟩; have q0 := hq.la.c0; have q1 := hq.la.c1; have q2 := hq.la.c2; have q3 := hq.lb.c0; have q4 := hq.lb.c1; have q5 := hq.lb.c2; simp only at q0 q1 q2 q3 q4 q5; have HQ := hide hq; clear hq))
            have HQ2 := (by assumption : Hid (PdSt w _ ((k, n), s) ((k2, n2), s2)))
            go_wp2_with fail
            refine (unhide CTX _ HQ2.out).mono ?_
            rintro e w5 ⟨rfl, hq⟩
            go_wp2_with fail
            go_ret
            exact ⟨by rw [HV.out] <;> rfl, hq.bel⟩
          · have hsl : ¬ s2.toList = os.toList := fun h => hs (ba_ext' (by rw [← ByteArray.toList_eq, ← ByteArray.toList_eq]; exact h))
            have hsb2 : (s2.toList == os.toList) = false := by simp [hsl]
            have hv := HPT3.out
            rw [if_neg (fun h => hs (congrArg (fun x : LnD => x.2) h))] at hv
            have HV := hide hv
            clear hv HPT3
            go_upto_region 3 with fail
            have STd : Hid (PdSt w w2.drew ((k, n), s) ((k2, n2), s2)) := hide ((ST2.out).next (Below.refl _ w2).drew)
            have a0 := (STd.out).la.c0
            have a1 := (STd.out).la.c1
            have a2 := (STd.out).la.c2
            have c0 := (STd.out).lb.c0
            have c1 := (STd.out).lb.c1
            have c2 := (STd.out).lb.c2
            simp only at a0 a1 a2 c0 c1 c2
            clear ST2
            go_region_held3 (fun w' => w'.cell? ⟨w.heap.size, 0, none⟩ = some (.int .i64 k) ∧ w'.cell? ⟨w.heap.size, 1, none⟩ = some (.int .i64 n) ∧ w'.cell? ⟨w.heap.size, 2, none⟩ = some (.string s) ∧ w'.cell? ⟨w.heap.size + 1, 0, none⟩ = some (.int .i64 k2) ∧ w'.cell? ⟨w.heap.size + 1, 1, none⟩ = some (.int .i64 n2) ∧ w'.cell? ⟨w.heap.size + 1, 2, none⟩ = some (.string s2) ∧ Hid (PdSt w w' ((k, n), s) ((k2, n2), s2)))
              (first | exact ⟨by assumption, by assumption, by assumption, by assumption, by assumption, by assumption, by assumption⟩ | go_keep)
              (first
                | (go_at_call 25; refine (unhide COX _ (by assumption : Hid (PdSt w _ ((k, n), s) ((k2, n2), s2))).out).mono ?_; rintro e w' ⟨rfl, hq⟩; have q0 := hq.la.c0; have q1 := hq.la.c1; have q2 := hq.la.c2; have q3 := hq.lb.c0; have q4 := hq.lb.c1; have q5 := hq.lb.c2; simp only at q0 q1 q2 q3 q4 q5; have HQ := hide hq; clear hq))
            have HQ2 := (by assumption : Hid (PdSt w _ ((k, n), s) ((k2, n2), s2)))
            go_upto_region 5 with fail
            have STe := hide ((HQ2.out).next (Below.refl _ _).drew)
            have g0 := (STe.out).la.c0
            have g1 := (STe.out).la.c1
            have g2 := (STe.out).la.c2
            have g3 := (STe.out).lb.c0
            have g4 := (STe.out).lb.c1
            have g5 := (STe.out).lb.c2
            simp only at g0 g1 g2 g3 g4 g5
            go_region_held3 (fun w' => w'.cell? ⟨w.heap.size, 0, none⟩ = some (.int .i64 k) ∧ w'.cell? ⟨w.heap.size, 1, none⟩ = some (.int .i64 n) ∧ w'.cell? ⟨w.heap.size, 2, none⟩ = some (.string s) ∧ w'.cell? ⟨w.heap.size + 1, 0, none⟩ = some (.int .i64 k2) ∧ w'.cell? ⟨w.heap.size + 1, 1, none⟩ = some (.int .i64 n2) ∧ w'.cell? ⟨w.heap.size + 1, 2, none⟩ = some (.string s2) ∧ Hid (PdSt w w' ((k, n), s) ((k2, n2), s2)))
              (first | exact ⟨by assumption, by assumption, by assumption, by assumption, by assumption, by assumption, by assumption⟩ | go_keep)
              (first
                | (go_at_call_of 9 (Value.string s); refine (unhide CTX _ (by assumption : Hid (PdSt w _ ((k, n), s) ((k2, n2), s2))).out).mono ?_; rintro e w' ⟨rfl, hq⟩; have q0 := hq.la.c0; have q1 := hq.la.c1; have q2 := hq.la.c2; have q3 := hq.lb.c0; have q4 := hq.lb.c1; have q5 := hq.lb.c2; simp only at q0 q1 q2 q3 q4 q5; have HQ := hide hq; clear hq)
                | (go_at_call_of 9 (Value.string s2); refine (unhide CTY _ (by assumption : Hid (PdSt w _ ((k, n), s) ((k2, n2), s2))).out).mono ?_; rintro e w' ⟨rfl, hq⟩; have q0 := hq.la.c0; have q1 := hq.la.c1; have q2 := hq.la.c2; have q3 := hq.lb.c0; have q4 := hq.lb.c1; have q5 := hq.lb.c2; simp only at q0 q1 q2 q3 q4 q5; have HQ := hide hq; clear hq))
            go_wp2_with fail
            go_ret
            exact ⟨by rw [HV.out] <;> rfl, (by assumption : Hid (PdSt w _ ((k, n), s) ((k2, n2), s2))).out.bel⟩
        · have hv := HPT3.out
          rw [if_neg (fun h => hn (congrArg (fun x : LnD => x.1.2) h))] at hv
          have HV := hide hv
          clear hv HPT3
          go_upto_region 3 with fail
          have STd : Hid (PdSt w w2.drew ((k, n), s) ((k2, n2), s2)) := hide ((ST2.out).next (Below.refl _ w2).drew)
          have a0 := (STd.out).la.c0
          have a1 := (STd.out).la.c1
          have a2 := (STd.out).la.c2
          have c0 := (STd.out).lb.c0
          have c1 := (STd.out).lb.c1
          have c2 := (STd.out).lb.c2
          simp only at a0 a1 a2 c0 c1 c2
          clear ST2
          go_region_held3 (fun w' => w'.cell? ⟨w.heap.size, 0, none⟩ = some (.int .i64 k) ∧ w'.cell? ⟨w.heap.size, 1, none⟩ = some (.int .i64 n) ∧ w'.cell? ⟨w.heap.size, 2, none⟩ = some (.string s) ∧ w'.cell? ⟨w.heap.size + 1, 0, none⟩ = some (.int .i64 k2) ∧ w'.cell? ⟨w.heap.size + 1, 1, none⟩ = some (.int .i64 n2) ∧ w'.cell? ⟨w.heap.size + 1, 2, none⟩ = some (.string s2) ∧ Hid (PdSt w w' ((k, n), s) ((k2, n2), s2)))
            (first | exact ⟨by assumption, by assumption, by assumption, by assumption, by assumption, by assumption, by assumption⟩ | go_keep)
            (first
              | (go_at_call 25; refine (unhide COX _ (by assumption : Hid (PdSt w _ ((k, n), s) ((k2, n2), s2))).out).mono ?_; rintro e w' ⟨rfl, hq⟩; have q0 := hq.la.c0; have q1 := hq.la.c1; have q2 := hq.la.c2; have q3 := hq.lb.c0; have q4 := hq.lb.c1; have q5 := hq.lb.c2; simp only at q0 q1 q2 q3 q4 q5; have HQ := hide hq; clear hq))
          have HQ2 := (by assumption : Hid (PdSt w _ ((k, n), s) ((k2, n2), s2)))
          go_upto_region 5 with fail
          have STe := hide ((HQ2.out).next (Below.refl _ _).drew)
          have g0 := (STe.out).la.c0
          have g1 := (STe.out).la.c1
          have g2 := (STe.out).la.c2
          have g3 := (STe.out).lb.c0
          have g4 := (STe.out).lb.c1
          have g5 := (STe.out).lb.c2
          simp only at g0 g1 g2 g3 g4 g5
          go_region_held3 (fun w' => w'.cell? ⟨w.heap.size, 0, none⟩ = some (.int .i64 k) ∧ w'.cell? ⟨w.heap.size, 1, none⟩ = some (.int .i64 n) ∧ w'.cell? ⟨w.heap.size, 2, none⟩ = some (.string s) ∧ w'.cell? ⟨w.heap.size + 1, 0, none⟩ = some (.int .i64 k2) ∧ w'.cell? ⟨w.heap.size + 1, 1, none⟩ = some (.int .i64 n2) ∧ w'.cell? ⟨w.heap.size + 1, 2, none⟩ = some (.string s2) ∧ Hid (PdSt w w' ((k, n), s) ((k2, n2), s2)))
            (first | exact ⟨by assumption, by assumption, by assumption, by assumption, by assumption, by assumption, by assumption⟩ | go_keep)
            (first
              | (go_at_call_of 9 (Value.string s); refine (unhide CTX _ (by assumption : Hid (PdSt w _ ((k, n), s) ((k2, n2), s2))).out).mono ?_; rintro e w' ⟨rfl, hq⟩; have q0 := hq.la.c0; have q1 := hq.la.c1; have q2 := hq.la.c2; have q3 := hq.lb.c0; have q4 := hq.lb.c1; have q5 := hq.lb.c2; simp only at q0 q1 q2 q3 q4 q5; have HQ := hide hq; clear hq)
              | (go_at_call_of 9 (Value.string s2); refine (unhide CTY _ (by assumption : Hid (PdSt w _ ((k, n), s) ((k2, n2), s2))).out).mono ?_; rintro e w' ⟨rfl, hq⟩; have q0 := hq.la.c0; have q1 := hq.la.c1; have q2 := hq.la.c2; have q3 := hq.lb.c0; have q4 := hq.lb.c1; have q5 := hq.lb.c2; simp only at q0 q1 q2 q3 q4 q5; have HQ := hide hq; clear hq))
          go_wp2_with fail
          go_ret
          exact ⟨by rw [HV.out] <;> rfl, (by assumption : Hid (PdSt w _ ((k, n), s) ((k2, n2), s2))).out.bel⟩
      · have hv := HPT3.out
        rw [if_neg (fun h => hk (congrArg (fun x : LnD => x.1.1) h))] at hv
        have HV := hide hv
        clear hv HPT3
        go_upto_region 3 with fail
        have STd : Hid (PdSt w w2.drew ((k, n), s) ((k2, n2), s2)) := hide ((ST2.out).next (Below.refl _ w2).drew)
        have a0 := (STd.out).la.c0
        have a1 := (STd.out).la.c1
        have a2 := (STd.out).la.c2
        have c0 := (STd.out).lb.c0
        have c1 := (STd.out).lb.c1
        have c2 := (STd.out).lb.c2
        simp only at a0 a1 a2 c0 c1 c2
        clear ST2
        go_region_held3 (fun w' => w'.cell? ⟨w.heap.size, 0, none⟩ = some (.int .i64 k) ∧ w'.cell? ⟨w.heap.size, 1, none⟩ = some (.int .i64 n) ∧ w'.cell? ⟨w.heap.size, 2, none⟩ = some (.string s) ∧ w'.cell? ⟨w.heap.size + 1, 0, none⟩ = some (.int .i64 k2) ∧ w'.cell? ⟨w.heap.size + 1, 1, none⟩ = some (.int .i64 n2) ∧ w'.cell? ⟨w.heap.size + 1, 2, none⟩ = some (.string s2) ∧ Hid (PdSt w w' ((k, n), s) ((k2, n2), s2)))
          (first | exact ⟨by assumption, by assumption, by assumption, by assumption, by assumption, by assumption, by assumption⟩ | go_keep)
          (first
            | (go_at_call 25; refine (unhide COX _ (by assumption : Hid (PdSt w _ ((k, n), s) ((k2, n2), s2))).out).mono ?_; rintro e w' ⟨rfl, hq⟩; have q0 := hq.la.c0; have q1 := hq.la.c1; have q2 := hq.la.c2; have q3 := hq.lb.c0; have q4 := hq.lb.c1; have q5 := hq.lb.c2; simp only at q0 q1 q2 q3 q4 q5; have HQ := hide hq; clear hq))
        have HQ2 := (by assumption : Hid (PdSt w _ ((k, n), s) ((k2, n2), s2)))
        go_upto_region 5 with fail
        have STe := hide ((HQ2.out).next (Below.refl _ _).drew)
        have g0 := (STe.out).la.c0
        have g1 := (STe.out).la.c1
        have g2 := (STe.out).la.c2
        have g3 := (STe.out).lb.c0
        have g4 := (STe.out).lb.c1
        have g5 := (STe.out).lb.c2
        simp only at g0 g1 g2 g3 g4 g5
        go_region_held3 (fun w' => w'.cell? ⟨w.heap.size, 0, none⟩ = some (.int .i64 k) ∧ w'.cell? ⟨w.heap.size, 1, none⟩ = some (.int .i64 n) ∧ w'.cell? ⟨w.heap.size, 2, none⟩ = some (.string s) ∧ w'.cell? ⟨w.heap.size + 1, 0, none⟩ = some (.int .i64 k2) ∧ w'.cell? ⟨w.heap.size + 1, 1, none⟩ = some (.int .i64 n2) ∧ w'.cell? ⟨w.heap.size + 1, 2, none⟩ = some (.string s2) ∧ Hid (PdSt w w' ((k, n), s) ((k2, n2), s2)))
          (first | exact ⟨by assumption, by assumption, by assumption, by assumption, by assumption, by assumption, by assumption⟩ | go_keep)
          (first
            | (go_at_call_of 9 (Value.string s); refine (unhide CTX _ (by assumption : Hid (PdSt w _ ((k, n), s) ((k2, n2), s2))).out).mono ?_; rintro e w' ⟨rfl, hq⟩; have q0 := hq.la.c0; have q1 := hq.la.c1; have q2 := hq.la.c2; have q3 := hq.lb.c0; have q4 := hq.lb.c1; have q5 := hq.lb.c2; simp only at q0 q1 q2 q3 q4 q5; have HQ := hide hq; clear hq)
            | (go_at_call_of 9 (Value.string s2); refine (unhide CTY _ (by assumption : Hid (PdSt w _ ((k, n), s) ((k2, n2), s2))).out).mono ?_; rintro e w' ⟨rfl, hq⟩; have q0 := hq.la.c0; have q1 := hq.la.c1; have q2 := hq.la.c2; have q3 := hq.lb.c0; have q4 := hq.lb.c1; have q5 := hq.lb.c2; simp only at q0 q1 q2 q3 q4 q5; have HQ := hide hq; clear hq))
        go_wp2_with fail
        go_ret
        exact ⟨by rw [HV.out] <;> rfl, (by assumption : Hid (PdSt w _ ((k, n), s) ((k2, n2), s2))).out.bel⟩

end Go.Proofs.YtbnfggnklhfimaaGreatDoor

/- LineTells, walked. -/
namespace Go.Proofs.YtbnfggnklhfimaaGreatDoor
open Go.RowKit

theorem lenv_le : LEnv LE := ⟨fun h hb => h.below hb, fun h => h.mx⟩

theorem lineTells_walk (a b : LnD) (w : World) (hw : LE w) :
    Calls Tryz.prog 3 #[lnA a, lnA b] w fun e w' => e = .returned (.bool true) ∧ Below w.heap.size w w' :=
  lineTells_of LE lenv_le (fun l at_ v w h hl _ _ => read7_any l at_ v w h hl) (fun l at_ v w h hl _ _ => pair7_any l at_ v w h hl) (fun x w hs _ => good7_any x w hs) (fun x w hs h => text7_any x w h hs) (fun x y w hx hy h => pairText7_any x y w h hx hy) a b w hw

end Go.Proofs.YtbnfggnklhfimaaGreatDoor

/- A row with laid tables whose walk wants the world's shape besides. -/
namespace Go.Proofs.YtbnfggnklhfimaaGreatDoor
open Go.RowKit

theorem handed_both {H : Type} {enc : TypeId × Value → H} {a : Assume} {C : Checked} {os : Os} {f : FuncId} {fn : Func} {s : ChangeSpec} {conds : List PathCond} {apart fresh handsOn again : Bool} {X : World → Array Value → Prop}
    (hX : ∀ (w w' : World) (args : Array Value), w.heap = w'.heap → X w args → X w' args)
    (own : ownKnob C.prog.godebug = none) (started : os.Started) (noInit : C.prog.inits.idxOf? f = none) (hfn : C.prog.funcs[f]? = some fn)
    (witness : ∃ (w : World) (tape : Tape) (i : Input), w.os = os ∧ (w.forCall tape i).Shaped C.prog ∧ i.vars = [] ∧ Input.okWide C.prog (w.forCall tape i) .any w.heap.size f i ∧
      ((s.pre enc C.prog fn conds apart (w.forCall tape i).memory i.args ∧ X (w.forCall tape i).memory i.args) ∧ sizedMet enc C.prog fn (OpenSpec.ofChange s) apart (w.forCall tape i).memory i.args) ∧ a.holds C.prog (lone (Frame.enter C.prog f i.args .normal) [] (w.forCall tape i)))
    (walk : ∀ (W : World) (base : Nat) (args : Array Value) (ds gs : List (DataW H)) (before : List MemPlace),
      (∀ (j : Nat) t v, fn.params[j]? = some t → args[j]? = some v → Value.okWide C.prog W .any base t v) →
      DataW.Whole enc C.prog fn.params.toList s.vars apart W args.toList ds gs before → X W args → W.ShapedOpen C.prog →
      Calls C.prog f args W fun e W' => ∃ v, e = .returned v ∧ s.post enc C.prog fn apart fresh handsOn again W args v W') :
    ReturnsInHanded a C os f .any (fun w args => (s.pre enc C.prog fn conds apart w args ∧ X w args) ∧ sizedMet enc C.prog fn (OpenSpec.ofChange s) apart w args) (s.post enc C.prog fn apart fresh handsOn again) := by
  refine returnsInHanded_of_calls own started noInit witness ?_
  intro w tape i _ hsh _ hok hpre _
  obtain ⟨_, _, _, g, hg, _, _, _, _, hval⟩ := hok
  obtain rfl : g = fn := Option.some.inj (hg.symm.trans hfn)
  obtain ⟨⟨⟨ds, gs, before, hw, _⟩, hx⟩, _⟩ := hpre
  have hw' := DataW.Whole.of_heap (w' := w.forCall tape i) (by rfl) hw
  refine (walk (w.forCall tape i) w.heap.size i.args ds gs before hval hw' (hX _ _ _ (by rfl) hx) hsh).mono fun e W' ⟨v, he, hp⟩ => ?_
  subst he
  exact ChangeSpec.post_blind hp

theorem max_of {w : World} (h : w.ShapedOpen Tryz.prog) : MaxAt w := Tryz.laysM143.s1_3 w h

end Go.Proofs.YtbnfggnklhfimaaGreatDoor

/- A line that comes in. -/
namespace Go.Proofs.YtbnfggnklhfimaaGreatDoor
open Go Go.ChangeShapes Go.WideShapes Go.RowKit

theorem cl_ln7 : Tryz.prog.cellsOf 23 = 3 := by kernel_rfl

theorem cl_int7 : Tryz.prog.cellsOf 3 = 1 := by kernel_rfl

theorem cl_str7 : Tryz.prog.cellsOf 9 = 1 := by kernel_rfl

section

variable {H : Type} {enc : TypeId × Value → H} {w : World} {base : Nat} {spare : Nat → Bool} {held : Bool}

/-- A line as data. -/
def lnD (x : LnD) : DataW H := .agg [.lit (.int .i64 x.1.1), .lit (.int .i64 x.1.2), .lit (.string x.2.data.toList)]

set_option maxRecDepth 100000 in
/-- The parts of a line. -/
theorem trod_ln {fuel : Nat} {cs : List Value} {y : DataW H × List MemPlace} (h : DataW.trod enc Tryz.prog w base spare held fuel 23 cs = some y) :
    ∃ x : LnD, cs = [.int .i64 x.1.1, .int .i64 x.1.2, .string x.2] ∧ y = (lnD x, []) ∧ (Lit.int .i64 x.1.1).wf = true ∧ (Lit.int .i64 x.1.2).wf = true ∧ x.2.size ≤ maxLen := by
  obtain ⟨xs, m, rfl, rfl, hl, hx, hf⟩ := DataW.trod_struct Tryz.underlying23 h
  rw [cl_ln7] at hl
  have h0 : DataW.trod enc Tryz.prog w base spare held m 3 ((cs.drop 0).take (Tryz.prog.cellsOf 3)) = xs[0]? := hf 0 _ rfl
  have h1 : DataW.trod enc Tryz.prog w base spare held m 3 ((cs.drop 1).take (Tryz.prog.cellsOf 3)) = xs[1]? := hf 1 _ rfl
  have h2 : DataW.trod enc Tryz.prog w base spare held m 9 ((cs.drop 2).take (Tryz.prog.cellsOf 9)) = xs[2]? := hf 2 _ rfl
  rw [cl_int7] at h0 h1
  rw [cl_str7] at h2
  match cs, hl with
  | [c0, c1, c2], _ =>
    match xs, hx with
    | [x0, x1, x2], _ =>
      obtain ⟨k, e0, f0, g0⟩ := DataW.trod_int Tryz.underlying3 h0
      obtain ⟨n, e1, f1, g1⟩ := DataW.trod_int Tryz.underlying3 h1
      obtain ⟨s, e2, f2, g2⟩ := DataW.trod_string Tryz.underlying9 h2
      simp at e0 e1 e2
      subst e0 e1 e2 f0 f1 f2
      exact ⟨((k, n), s), rfl, rfl, g0, g1, g2⟩

set_option maxRecDepth 100000 in
theorem trod_ln_mk {x : LnD} (hk : (Lit.int .i64 x.1.1).wf = true) (hn : (Lit.int .i64 x.1.2).wf = true) (hs : x.2.size ≤ maxLen) : DataW.trod enc Tryz.prog w base spare held 2 23 [.int .i64 x.1.1, .int .i64 x.1.2, .string x.2] = some (lnD x, []) := by
  have h3 : ∀ j : Int, (Lit.int .i64 j).wf = true → DataW.trod enc Tryz.prog w base spare held 1 3 [.int .i64 j] = some (.lit (.int .i64 j), []) := fun j hj => by simp [DataW.trod, Tryz.underlying3, hj]
  have h4 : ∀ s : ByteArray, s.size ≤ maxLen → DataW.trod enc Tryz.prog w base spare held 1 9 [.string s] = some (.lit (.string s.data.toList), []) := fun s hs => by simp [DataW.trod, Tryz.underlying9, hs]
  unfold DataW.trod
  rw [Tryz.underlying23 ]
  simp [cl_ln7, cl_int7, cl_str7, h3 _ hk, h3 _ hn, h4 _ hs, lnD]

set_option maxRecDepth 100000 in
theorem open_ln {r : Reach} {b0 : Nat} {v : Value} {d : DataW H} {ps : List MemPlace} (hval : Value.okWide Tryz.prog w r b0 23 v) (hd : DataW.Trod enc Tryz.prog w base spare held 23 v d ps) :
    ∃ x : LnD, v = lnA x ∧ d = lnD x ∧ ps = [] ∧ (Lit.int .i64 x.1.1).wf = true ∧ (Lit.int .i64 x.1.2).wf = true ∧ x.2.size ≤ maxLen := by
  obtain ⟨fuel, hf⟩ := hd
  obtain ⟨x, hc, hx, g0, g1, g2⟩ := trod_ln hf
  unfold Value.okWide at hval
  rw [Tryz.underlying23 ] at hval
  obtain ⟨cs, rfl, _⟩ := hval
  simp only [Prod.mk.injEq] at hx
  refine ⟨x, ?_, hx.1, hx.2, g0, g1, g2⟩
  unfold lnA
  congr 1
  have : cs.toList = [.int .i64 x.1.1, .int .i64 x.1.2, .string x.2] := hc
  rw [← Array.toArray_toList (xs := cs), this]

theorem shut_ln {x : LnD} (hk : (Lit.int .i64 x.1.1).wf = true) (hn : (Lit.int .i64 x.1.2).wf = true) (hs : x.2.size ≤ maxLen) : DataW.Trod enc Tryz.prog w base spare held 23 (lnA x) (lnD x) [] :=
  ⟨2, trod_ln_mk hk hn hs⟩

end

end Go.Proofs.YtbnfggnklhfimaaGreatDoor
