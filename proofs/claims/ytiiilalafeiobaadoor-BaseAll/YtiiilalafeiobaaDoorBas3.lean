/- base.Start walked. -/
import Derived.Test.YtiiilalafeiobaaDoorBas3p
namespace Go.Proofs.YtiiilalafeiobaaDoor
open Go.RowKit

set_option maxRecDepth 100000 in
set_option maxHeartbeats 8000000 in
theorem start22_any (t : TrD) (size : Int) (d : Bool) (w : World) (hk : KW w) : Calls Tryd.prog 6 #[.agg (trC t), .int .i64 size, .bool d] w fun e w' => e = .returned (stE (startV t size d)) ∧ Below w.heap.size w w' := by
  have ST0 := hide (StS.start w t)
  have CT := hide (fun W (h : StS w W t) => (right_any t W (hk.below h.bel)).mono fun _ _ hh => And.intro hh.1 (h.next hh.2))
  have CI := hide (fun W => isSize22_any size W)
  have CR := hide (fun L x y z k n W (h : StL w W t L x y z) => (resolve_any k n size d W).mono fun _ _ hh => And.intro hh.1 (h.next hh.2))
  obtain ⟨⟨a1, a2⟩, ⟨a3, a4⟩, q, ⟨a5, a6⟩⟩ := t
  have hr : startV ⟨(a1, a2), (a3, a4), q, (a5, a6)⟩ size d = if (rightB ⟨(a1, a2), (a3, a4), q, (a5, a6)⟩ && !(d && !isSz size)) = false then (noSz, 2)
    else if ¬ (resolV a1 a2 size d).2.2 = 0 then (noSz, (resolV a1 a2 size d).2.2)
    else if ¬ (resolV a3 a4 size d).2.2 = 0 then (noSz, (resolV a3 a4 size d).2.2)
    else if ¬ (resolV a5 a6 size d).2.2 = 0 then (noSz, (resolV a5 a6 size d).2.2)
    else (raiseV ⟨kindV a1 d, kindV a3 d, if kindV a3 d = 5 then a4 else 0, q && decide (kindV a5 d = 1), if (q && decide (kindV a5 d = 1)) = true then (resolV a5 a6 size d).1 else 0, (resolV a1 a2 size d).1, if kindV a3 d = 1 then (resolV a3 a4 size d).1 else 1125899906842624⟩, 0) := rfl
  have HR := hide hr
  generalize startV ⟨(a1, a2), (a3, a4), q, (a5, a6)⟩ size d = R at *
  clear hr hk
  have C0 := hide (fun L x y z W h => (CR.out) L x y z a1 a2 W h)
  have C1 := hide (fun L x y z W h => (CR.out) L x y z a3 a4 W h)
  have C2 := hide (fun L x y z W h => (CR.out) L x y z a5 a6 W h)
  clear CR
  generalize resolV a1 a2 size d = r0 at *
  generalize resolV a3 a4 size d = r1 at *
  generalize resolV a5 a6 size d = r2 at *
  obtain ⟨n0, i0, e0⟩ := r0
  obtain ⟨n1, i1, e1⟩ := r1
  obtain ⟨n2, i2, e2⟩ := r2
  generalize rightB ⟨(a1, a2), (a3, a4), q, (a5, a6)⟩ = RT at *
  generalize isSz size = IS at *
  unfold trC at ST0 CT ⊢
  unfold szC noSz at ST0
  unfold resE lenA at C0 C1 C2
  simp only at ST0 CT C0 C1 C2 HR ⊢
  go_enter Tryd.func6, Tryd.ntmps6
  go_upto_region 1 with fail
  generalize ((w.alloc (.cells #[.int .i64 a1, .int .i64 a2, .int .i64 a3, .int .i64 a4, .bool q, .int .i64 a5, .int .i64 a6] 25)).alloc (.cells #[.int .i64 0, .int .i64 0, .int .i64 0, .bool false, .int .i64 0, .int .i64 0, .int .i64 0] 27)) = w1 at *
  obtain ⟨Y, hY⟩ : ∃ Y : Bool, Y = !(RT && !(d && !IS)) := ⟨_, rfl⟩
  have HY := hide hY
  clear hY
  go_cut [25] (fun b wx => b = .bool Y ∧ Hid (StS w wx ⟨(a1, a2), (a3, a4), q, (a5, a6)⟩))
  case first =>
    obtain ⟨x0, x1, x2, x3, x4, x5, x6⟩ := (ST0.out).tc
    clear HR C0 C1 C2
    go_wp2_with fail
    refine Calls.mono ((CT.out) _ ST0.out) ?_
    rintro ee w2 ⟨rfl, hs⟩
    have ST1 := hide hs
    clear ST0 CT hs x0 x1 x2 x3 x4 x5 x6
    cases RT
    · go_wp2_with fail
      go_meet
      case rel => exact ⟨congrArg Value.bool (by rw [HY.out]; rfl), ST1⟩
    · cases d
      · go_wp2_with fail
        go_meet
        case rel => exact ⟨congrArg Value.bool (by rw [HY.out]; rfl), ST1⟩
      · go_wp2_with fail
        refine Calls.mono ((CI.out) _) ?_
        rintro ee w3 ⟨rfl, rfl⟩
        go_wp2_with fail
        go_meet
        case rel => exact ⟨congrArg Value.bool (by rw [HY.out]; cases IS <;> rfl), ST1⟩
  case rest =>
    obtain ⟨rfl, ST1⟩ := hcut
    clear CT CI ST0
    obtain ⟨x0, x1, x2, x3, x4, x5, x6⟩ := (ST1.out).tc
    have HYX : Hid ((RT && !(d && !IS)) = !Y) := hide (by rw [HY.out, Bool.not_not])
    clear HY
    rw [HYX.out] at HR
    clear HYX
    cases Y
    rotate_left
    · have HV : Hid (R = (noSz, 2)) := hide (by rw [HR.out]; rfl)
      obtain ⟨y0, y1, y2, y3, y4, y5, y6⟩ := (ST1.out).rc
      have yz := (ST1.out).rs.z
      clear HR C0 C1 C2
      go_wp2_with fail
      exact bodyPost_ret (v := stE (noSz, 2)) (by simp [results, Tryd.results6, go_sem, y0, y1, y2, y3, y4, y5, y6, stE, noSz, szC]) rfl ⟨by rw [HV.out], below_sz (ST1.out).bel (by omega) _ _ _ _ _ _ _⟩
    · have SL0 : Hid (StL w (wc.alloc (.cells #[.int .i64 0, .int .i64 0, .int .i64 0] 51)) ⟨(a1, a2), (a3, a4), q, (a5, a6)⟩ wc.heap.size 0 0 0) := hide ⟨(ST1.out).alloc _, TriR.new wc, (ST1.out).sz⟩
      clear ST1 x0 x1 x2 x3 x4 x5 x6
      obtain ⟨x0, x1, x2, x3, x4, x5, x6⟩ := (SL0.out).st.tc
      go_wp2_with fail
      generalize wc.alloc (.cells #[.int .i64 0, .int .i64 0, .int .i64 0] 51) = w3 at *
      generalize wc.heap.size = L at *
      clear x0 x1 x2 x3 x4 x5 x6
      go_loopw [34] (fun i wr => ∃ j : Nat, j ≤ 3 ∧ i = .int .i64 (j : Int) ∧ Hid ((j > 0 → e0 = 0) ∧ (j > 1 → e1 = 0) ∧ (j > 2 → e2 = 0)) ∧ Hid (StL w wr ⟨(a1, a2), (a3, a4), q, (a5, a6)⟩ L (if 0 < j then n0 else 0) (if 1 < j then n1 else 0) (if 2 < j then n2 else 0))) (fun i _ => (3 - intOf i).toNat)
      case atStart => exact ⟨0, by omega, by go_num, hide ⟨fun h => by omega, fun h => by omega, fun h => by omega⟩, SL0⟩
      case round =>
        clear SL0
        obtain ⟨j, hj, rfl, HZ, SL⟩ := hrel
        obtain rfl | rfl | rfl | rfl : j = 0 ∨ j = 1 ∨ j = 2 ∨ j = 3 := by omega
        · have SL2 := (SL.out).alloc (.cells #[.int .i64 a1, .int .i64 a2] 23)
          have hn := LenAt.new wr a1 a2
          have z0 := hn.c0
          have z1 := hn.c1
          have zz := hn.z
          have hlo := (SL.out).lo
          have HLO := hide hlo
          have HS2 := hide SL2
          clear hn SL2 hlo
          go_wp2_with fail
          rw [tri_0]
          go_wp2_with fail
          generalize wr.alloc (.cells #[.int .i64 a1, .int .i64 a2] 23) = w4 at *
          refine Calls.mono ((C0.out) _ _ _ _ _ HS2.out) ?_
          rintro ee w5 ⟨rfl, hs⟩
          have HS3 := hide hs
          clear HS2 hs SL z0 z1 zz
          rcases eqk e0 0 with ⟨h0, h0b⟩ | ⟨h0, h0b⟩
          · have HZ2 : Hid ((0 + 1 > 0 → e0 = 0) ∧ (0 + 1 > 1 → e1 = 0) ∧ (0 + 1 > 2 → e2 = 0)) := hide ⟨fun _ => h0, fun _ => by omega, fun _ => by omega⟩
            have HS4 := hide ((HS3.out).set0 n0)
            have lz := (HS3.out).ln.z
            obtain ⟨l0, l1, l2⟩ := (HS3.out).lc
            have h0c : (e0 != 0) = false := by simp [h0]
            clear h0 HZ HS3
            go_wp2_with fail
            go_roundw
            case rel => exact ⟨0 + 1, by omega, by go_num, HZ2, HS4⟩
            case measure => simp [intOf]
          · have HV : Hid (R = (noSz, e0)) := hide (by rw [HR.out, if_neg (by simp)]; rw [if_pos h0])
            obtain ⟨y0, y1, y2, y3, y4, y5, y6⟩ := (HS3.out).st.rc
            have yz := (HS3.out).st.rs.z
            have h0c : (e0 != 0) = true := by simp [h0]
            clear HR h0 HZ
            go_wp2_with fail
            exact bodyPost_ret (v := stE (noSz, e0)) (by simp [results, Tryd.results6, go_sem, y0, y1, y2, y3, y4, y5, y6, stE, noSz, szC]) rfl ⟨by rw [HV.out], below_sz (HS3.out).st.bel (by omega) _ _ _ _ _ _ _⟩
        · have SL2 := (SL.out).alloc (.cells #[.int .i64 a3, .int .i64 a4] 23)
          have hn := LenAt.new wr a3 a4
          have z0 := hn.c0
          have z1 := hn.c1
          have zz := hn.z
          have hlo := (SL.out).lo
          have HLO := hide hlo
          have HS2 := hide SL2
          clear hn SL2 hlo
          go_wp2_with fail
          rw [tri_1]
          go_wp2_with fail
          generalize wr.alloc (.cells #[.int .i64 a3, .int .i64 a4] 23) = w4 at *
          refine Calls.mono ((C1.out) _ _ _ _ _ HS2.out) ?_
          rintro ee w5 ⟨rfl, hs⟩
          have HS3 := hide hs
          clear HS2 hs SL z0 z1 zz
          rcases eqk e1 0 with ⟨h0, h0b⟩ | ⟨h0, h0b⟩
          · have HZ2 : Hid ((1 + 1 > 0 → e0 = 0) ∧ (1 + 1 > 1 → e1 = 0) ∧ (1 + 1 > 2 → e2 = 0)) := hide ⟨fun _ => HZ.out.1 (by omega), fun _ => h0, fun _ => by omega⟩
            have HS4 := hide ((HS3.out).set1 n1)
            have lz := (HS3.out).ln.z
            obtain ⟨l0, l1, l2⟩ := (HS3.out).lc
            have h0c : (e1 != 0) = false := by simp [h0]
            clear h0 HZ HS3
            go_wp2_with fail
            go_roundw
            case rel => exact ⟨1 + 1, by omega, by go_num, HZ2, HS4⟩
            case measure => simp [intOf]
          · have HV : Hid (R = (noSz, e1)) := hide (by rw [HR.out, if_neg (by simp)]; rw [if_neg (fun h => h (HZ.out.1 (by omega)))]; rw [if_pos h0])
            obtain ⟨y0, y1, y2, y3, y4, y5, y6⟩ := (HS3.out).st.rc
            have yz := (HS3.out).st.rs.z
            have h0c : (e1 != 0) = true := by simp [h0]
            clear HR h0 HZ
            go_wp2_with fail
            exact bodyPost_ret (v := stE (noSz, e1)) (by simp [results, Tryd.results6, go_sem, y0, y1, y2, y3, y4, y5, y6, stE, noSz, szC]) rfl ⟨by rw [HV.out], below_sz (HS3.out).st.bel (by omega) _ _ _ _ _ _ _⟩
        · have SL2 := (SL.out).alloc (.cells #[.int .i64 a5, .int .i64 a6] 23)
          have hn := LenAt.new wr a5 a6
          have z0 := hn.c0
          have z1 := hn.c1
          have zz := hn.z
          have hlo := (SL.out).lo
          have HLO := hide hlo
          have HS2 := hide SL2
          clear hn SL2 hlo
          go_wp2_with fail
          rw [tri_2]
          go_wp2_with fail
          generalize wr.alloc (.cells #[.int .i64 a5, .int .i64 a6] 23) = w4 at *
          refine Calls.mono ((C2.out) _ _ _ _ _ HS2.out) ?_
          rintro ee w5 ⟨rfl, hs⟩
          have HS3 := hide hs
          clear HS2 hs SL z0 z1 zz
          rcases eqk e2 0 with ⟨h0, h0b⟩ | ⟨h0, h0b⟩
          · have HZ2 : Hid ((2 + 1 > 0 → e0 = 0) ∧ (2 + 1 > 1 → e1 = 0) ∧ (2 + 1 > 2 → e2 = 0)) := hide ⟨fun _ => HZ.out.1 (by omega), fun _ => HZ.out.2.1 (by omega), fun _ => h0⟩
            have HS4 := hide ((HS3.out).set2 n2)
            have lz := (HS3.out).ln.z
            obtain ⟨l0, l1, l2⟩ := (HS3.out).lc
            have h0c : (e2 != 0) = false := by simp [h0]
            clear h0 HZ HS3
            go_wp2_with fail
            go_roundw
            case rel => exact ⟨2 + 1, by omega, by go_num, HZ2, HS4⟩
            case measure => simp [intOf]
          · have HV : Hid (R = (noSz, e2)) := hide (by rw [HR.out, if_neg (by simp)]; rw [if_neg (fun h => h (HZ.out.1 (by omega)))]; rw [if_neg (fun h => h (HZ.out.2.1 (by omega)))]; rw [if_pos h0])
            obtain ⟨y0, y1, y2, y3, y4, y5, y6⟩ := (HS3.out).st.rc
            have yz := (HS3.out).st.rs.z
            have h0c : (e2 != 0) = true := by simp [h0]
            clear HR h0 HZ
            go_wp2_with fail
            exact bodyPost_ret (v := stE (noSz, e2)) (by simp [results, Tryd.results6, go_sem, y0, y1, y2, y3, y4, y5, y6, stE, noSz, szC]) rfl ⟨by rw [HV.out], below_sz (HS3.out).st.bel (by omega) _ _ _ _ _ _ _⟩
        · have HZ3 : Hid (e0 = 0 ∧ e1 = 0 ∧ e2 = 0) := hide ⟨HZ.out.1 (by omega), HZ.out.2.1 (by omega), HZ.out.2.2 (by omega)⟩
          have SL3 : Hid (StL w wr ⟨(a1, a2), (a3, a4), q, (a5, a6)⟩ L n0 n1 n2) := SL
          clear HZ SL C0 C1 C2
          go_wp2_with fail
          have SL4 := hide (SL3.out).drew
          obtain ⟨x0, x1, x2, x3, x4, x5, x6⟩ := (SL4.out).st.tc
          obtain ⟨l0, l1, l2⟩ := (SL4.out).lc
          obtain ⟨y0, y1, y2, y3, y4, y5, y6⟩ := (SL3.out).st.tc
          obtain ⟨m0, m1, m2⟩ := (SL3.out).lc
          have p1 : L < wr.heap.size := (SL3.out).ln.lt
          have p2 : w.heap.size < wr.heap.size := (SL3.out).st.tk.lt
          have hl1 : ¬ L = wr.heap.size := by omega
          have hl2 : ¬ w.heap.size = wr.heap.size := by omega
          have hl3 : ¬ L = wr.heap.size + 1 := by omega
          have hl4 : ¬ w.heap.size = wr.heap.size + 1 := by omega
          have hl5 : ¬ L = wr.heap.size + 1 + 1 := by omega
          have hl6 : ¬ w.heap.size = wr.heap.size + 1 + 1 := by omega
          have hl7 : ¬ L = wr.heap.size + 2 := by omega
          have hl8 : ¬ w.heap.size = wr.heap.size + 2 := by omega
          clear p1 p2
          have CK := hide (fun k n W => kind22_at k n d W)
          go_cut [14] (fun p wx => ∃ S, p = .pointer (some ⟨S, 0, none⟩) ∧ Hid (StF w wx ⟨(a1, a2), (a3, a4), q, (a5, a6)⟩ L n0 n1 n2 S ⟨kindV a1 d, kindV a3 d, 0, false, 0, n0, n1⟩))
          case first =>
            clear HR
            go_region_held3 (fun w' => w'.cell? ⟨w.heap.size, 0, none⟩ = some (.int .i64 a1) ∧ w'.cell? ⟨w.heap.size, 1, none⟩ = some (.int .i64 a2) ∧ w'.cell? ⟨w.heap.size, 2, none⟩ = some (.int .i64 a3) ∧ w'.cell? ⟨w.heap.size, 3, none⟩ = some (.int .i64 a4) ∧ w'.cell? ⟨L, 0, none⟩ = some (.int .i64 n0) ∧ w'.cell? ⟨L, 1, none⟩ = some (.int .i64 n1))
              (first | exact (StL.drew ((((SL3.out).alloc _).alloc _).alloc _)).six | exact (StL.drew (((SL3.out).alloc _).alloc _)).six | exact (StL.drew ((SL3.out).alloc _)).six | exact (StL.drew (SL3.out)).six | exact (StF.mk1 (((SL3.out).alloc _).alloc _) _ _ _ _ _ _ _).sl.drew.six | exact (StF.mk2 ((((SL3.out).alloc _).alloc _).alloc _) (((SzR.new _ noSz).alloc _).alloc _) (SL3.out).size (by omega) _ _ _ _ _ _ _).sl.drew.six | exact (StF.mk2 ((((SL3.out).alloc _).alloc _).alloc _) ((SzR.new _ noSz).alloc _) ((SL3.out).alloc _).size (by omega) _ _ _ _ _ _ _).sl.drew.six | go_keep)
              (first | (go_at_call 19; refine Calls.mono ((CK.out) _ _ _) ?_; rintro ee w6 ⟨rfl, rfl⟩))
            · go_wp2_with fail
              go_meet
              case rel => exact ⟨wr.heap.size + 1 + 1, rfl, hide (StF.al (((SL3.out).alloc _).alloc _) ⟨kindV a1 d, kindV a3 d, 0, false, 0, n0, n1⟩ (by simp)).drew⟩
            · go_wp2_with fail
              go_meet
              case rel => exact ⟨wr.heap.size + 1, rfl, hide ((StF.al ((SL3.out).alloc _) ⟨kindV a1 d, kindV a3 d, 0, false, 0, n0, n1⟩ (by simp)).alloc _).drew⟩
            · go_wp2_with fail
              go_meet
              case rel => exact ⟨wr.heap.size, rfl, hide (((StF.al SL3.out ⟨kindV a1 d, kindV a3 d, 0, false, 0, n0, n1⟩ rfl).alloc _).alloc _).drew⟩
          case rest =>
            clear SL3 SL4 x0 x1 x2 x3 x4 x5 x6 l0 l1 l2 y0 y1 y2 y3 y4 y5 y6 m0 m1 m2 hl1 hl2 hl3 hl4 hl5 hl6 hl7 hl8 CK
            obtain ⟨S, rfl, SF⟩ := hcut
            have CK := hide (fun s W (h : StF w W ⟨(a1, a2), (a3, a4), q, (a5, a6)⟩ L n0 n1 n2 S s) => (kind22_any a5 a6 d W).mono fun _ _ hh => And.intro hh.1 (h.next hh.2))
            have CZ := hide (fun (c1 c2 c3 : Int) (c4 : Bool) (c5 c6 c7 : Int) W (h : StF w W ⟨(a1, a2), (a3, a4), q, (a5, a6)⟩ L n0 n1 n2 S ⟨c1, c2, c3, c4, c5, c6, c7⟩) => (raise22_any ⟨c1, c2, c3, c4, c5, c6, c7⟩ W).mono fun _ _ hh => And.intro hh.1 (h.next hh.2))
            generalize kindV a1 d = K1 at *
            generalize kindV a3 d = MX at *
            generalize kindV a5 d = K5 at *
            obtain ⟨x0, x1, x2, x3, x4, x5, x6⟩ := (SF.out).sl.st.tc
            obtain ⟨s0, s1, s2, s3, s4, s5, s6⟩ := (SF.out).sz.cells
            have sz := (SF.out).sz.z
            obtain ⟨l0, l1, l2⟩ := (SF.out).sl.lc
            have nS : ¬ w.heap.size = S := by have := (SF.out).lo; omega
            have nS2 : ¬ S = w.heap.size := by have := (SF.out).lo; omega
            have nL := (SF.out).ne
            have nL2 : ¬ L = S := fun h => nL h.symm
            unfold szC raiseV at CZ
            simp only at CZ
            rcases eqk MX 1 with ⟨m1, m1b⟩ | ⟨m1, m1b⟩
            · skip
              cases q
              · skip
                have HV : Hid (R = (raiseV ⟨K1, MX, 0, false, 0, n0, n1⟩, 0)) := hide (by rw [HR.out, if_neg (by simp), if_neg (by simp [HZ3.out.1]), if_neg (by simp [HZ3.out.2.1]), if_neg (by simp [HZ3.out.2.2])]; simp [m1])
                clear HR HZ3 m1
                go_wp2_with fail
                refine Calls.mono ((CZ.out) _ _ _ _ _ _ _ _ (SF.out)) ?_
                rintro ee w7 ⟨rfl, hq⟩
                have HQ := hide hq
                clear hq
                obtain ⟨y0, y1, y2, y3, y4, y5, y6⟩ := (HQ.out).sl.st.rc
                have yz := (HQ.out).sl.st.rs.z
                go_wp2_with fail
                exact bodyPost_ret (v := stE R) (by rw [HV.out]; simp [results, Tryd.results6, go_sem, y0, y1, y2, y3, y4, y5, y6, stE, szC, raiseV]) rfl ⟨rfl, below_sz (HQ.out).sl.st.bel (by omega) _ _ _ _ _ _ _⟩
              · rcases eqk K5 1 with ⟨k1, k1b⟩ | ⟨k1, k1b⟩
                · skip
                  have HV : Hid (R = (raiseV ⟨K1, MX, 0, true, n2, n0, n1⟩, 0)) := hide (by rw [HR.out, if_neg (by simp), if_neg (by simp [HZ3.out.1]), if_neg (by simp [HZ3.out.2.1]), if_neg (by simp [HZ3.out.2.2])]; simp [m1, k1])
                  clear HR HZ3 m1
                  clear k1
                  go_wp2_with fail
                  refine Calls.mono ((CK.out) _ _ (SF.out)) ?_
                  rintro ee w6 ⟨rfl, hq⟩
                  have SG := hide hq
                  clear hq SF s0 s1 s2 s3 s4 s5 s6 sz x0 x1 x2 x3 x4 x5 x6 l0 l1 l2
                  obtain ⟨s0, s1, s2, s3, s4, s5, s6⟩ := (SG.out).sz.cells
                  have sz := (SG.out).sz.z
                  obtain ⟨l0, l1, l2⟩ := (SG.out).sl.lc
                  have neL := (SG.out).ne
                  go_wp2_with fail
                  go_region
                  go_wp2_with fail
                  refine Calls.mono ((CZ.out) _ _ _ _ _ _ _ _ ((((SG.out).set3 _).set4 _).drew)) ?_
                  rintro ee w7 ⟨rfl, hq⟩
                  have HQ := hide hq
                  clear hq
                  obtain ⟨y0, y1, y2, y3, y4, y5, y6⟩ := (HQ.out).sl.st.rc
                  have yz := (HQ.out).sl.st.rs.z
                  go_wp2_with fail
                  exact bodyPost_ret (v := stE R) (by rw [HV.out]; simp [results, Tryd.results6, go_sem, y0, y1, y2, y3, y4, y5, y6, stE, szC, raiseV]) rfl ⟨rfl, below_sz (HQ.out).sl.st.bel (by omega) _ _ _ _ _ _ _⟩
                · skip
                  have HV : Hid (R = (raiseV ⟨K1, MX, 0, false, 0, n0, n1⟩, 0)) := hide (by rw [HR.out, if_neg (by simp), if_neg (by simp [HZ3.out.1]), if_neg (by simp [HZ3.out.2.1]), if_neg (by simp [HZ3.out.2.2])]; simp [m1, k1])
                  clear HR HZ3 m1
                  clear k1
                  go_wp2_with fail
                  refine Calls.mono ((CK.out) _ _ (SF.out)) ?_
                  rintro ee w6 ⟨rfl, hq⟩
                  have SG := hide hq
                  clear hq SF s0 s1 s2 s3 s4 s5 s6 sz x0 x1 x2 x3 x4 x5 x6
                  obtain ⟨s0, s1, s2, s3, s4, s5, s6⟩ := (SG.out).sz.cells
                  go_wp2_with fail
                  refine Calls.mono ((CZ.out) _ _ _ _ _ _ _ _ (SG.out)) ?_
                  rintro ee w7 ⟨rfl, hq⟩
                  have HQ := hide hq
                  clear hq
                  obtain ⟨y0, y1, y2, y3, y4, y5, y6⟩ := (HQ.out).sl.st.rc
                  have yz := (HQ.out).sl.st.rs.z
                  go_wp2_with fail
                  exact bodyPost_ret (v := stE R) (by rw [HV.out]; simp [results, Tryd.results6, go_sem, y0, y1, y2, y3, y4, y5, y6, stE, szC, raiseV]) rfl ⟨rfl, below_sz (HQ.out).sl.st.bel (by omega) _ _ _ _ _ _ _⟩
            · rcases eqk MX 5 with ⟨m5, m5b⟩ | ⟨m5, m5b⟩
              · skip
                cases q
                · skip
                  have HV : Hid (R = (raiseV ⟨K1, MX, a4, false, 0, n0, 1125899906842624⟩, 0)) := hide (by rw [HR.out, if_neg (by simp), if_neg (by simp [HZ3.out.1]), if_neg (by simp [HZ3.out.2.1]), if_neg (by simp [HZ3.out.2.2])]; simp [m5])
                  clear HR HZ3 m1 m5
                  go_wp2_with fail
                  refine Calls.mono ((CZ.out) _ _ _ _ _ _ _ _ (((SF.out).set6 _).set2 _)) ?_
                  rintro ee w7 ⟨rfl, hq⟩
                  have HQ := hide hq
                  clear hq
                  obtain ⟨y0, y1, y2, y3, y4, y5, y6⟩ := (HQ.out).sl.st.rc
                  have yz := (HQ.out).sl.st.rs.z
                  go_wp2_with fail
                  exact bodyPost_ret (v := stE R) (by rw [HV.out]; simp [results, Tryd.results6, go_sem, y0, y1, y2, y3, y4, y5, y6, stE, szC, raiseV]) rfl ⟨rfl, below_sz (HQ.out).sl.st.bel (by omega) _ _ _ _ _ _ _⟩
                · rcases eqk K5 1 with ⟨k1, k1b⟩ | ⟨k1, k1b⟩
                  · skip
                    have HV : Hid (R = (raiseV ⟨K1, MX, a4, true, n2, n0, 1125899906842624⟩, 0)) := hide (by rw [HR.out, if_neg (by simp), if_neg (by simp [HZ3.out.1]), if_neg (by simp [HZ3.out.2.1]), if_neg (by simp [HZ3.out.2.2])]; simp [m5, k1])
                    clear HR HZ3 m1 m5
                    clear k1
                    go_wp2_with fail
                    refine Calls.mono ((CK.out) _ _ (((SF.out).set6 _).set2 _)) ?_
                    rintro ee w6 ⟨rfl, hq⟩
                    have SG := hide hq
                    clear hq SF s0 s1 s2 s3 s4 s5 s6 sz x0 x1 x2 x3 x4 x5 x6 l0 l1 l2
                    obtain ⟨s0, s1, s2, s3, s4, s5, s6⟩ := (SG.out).sz.cells
                    have sz := (SG.out).sz.z
                    obtain ⟨l0, l1, l2⟩ := (SG.out).sl.lc
                    have neL := (SG.out).ne
                    go_wp2_with fail
                    go_region
                    go_wp2_with fail
                    refine Calls.mono ((CZ.out) _ _ _ _ _ _ _ _ ((((SG.out).set3 _).set4 _).drew)) ?_
                    rintro ee w7 ⟨rfl, hq⟩
                    have HQ := hide hq
                    clear hq
                    obtain ⟨y0, y1, y2, y3, y4, y5, y6⟩ := (HQ.out).sl.st.rc
                    have yz := (HQ.out).sl.st.rs.z
                    go_wp2_with fail
                    exact bodyPost_ret (v := stE R) (by rw [HV.out]; simp [results, Tryd.results6, go_sem, y0, y1, y2, y3, y4, y5, y6, stE, szC, raiseV]) rfl ⟨rfl, below_sz (HQ.out).sl.st.bel (by omega) _ _ _ _ _ _ _⟩
                  · skip
                    have HV : Hid (R = (raiseV ⟨K1, MX, a4, false, 0, n0, 1125899906842624⟩, 0)) := hide (by rw [HR.out, if_neg (by simp), if_neg (by simp [HZ3.out.1]), if_neg (by simp [HZ3.out.2.1]), if_neg (by simp [HZ3.out.2.2])]; simp [m5, k1])
                    clear HR HZ3 m1 m5
                    clear k1
                    go_wp2_with fail
                    refine Calls.mono ((CK.out) _ _ (((SF.out).set6 _).set2 _)) ?_
                    rintro ee w6 ⟨rfl, hq⟩
                    have SG := hide hq
                    clear hq SF s0 s1 s2 s3 s4 s5 s6 sz x0 x1 x2 x3 x4 x5 x6
                    obtain ⟨s0, s1, s2, s3, s4, s5, s6⟩ := (SG.out).sz.cells
                    go_wp2_with fail
                    refine Calls.mono ((CZ.out) _ _ _ _ _ _ _ _ (SG.out)) ?_
                    rintro ee w7 ⟨rfl, hq⟩
                    have HQ := hide hq
                    clear hq
                    obtain ⟨y0, y1, y2, y3, y4, y5, y6⟩ := (HQ.out).sl.st.rc
                    have yz := (HQ.out).sl.st.rs.z
                    go_wp2_with fail
                    exact bodyPost_ret (v := stE R) (by rw [HV.out]; simp [results, Tryd.results6, go_sem, y0, y1, y2, y3, y4, y5, y6, stE, szC, raiseV]) rfl ⟨rfl, below_sz (HQ.out).sl.st.bel (by omega) _ _ _ _ _ _ _⟩
              · skip
                cases q
                · skip
                  have HV : Hid (R = (raiseV ⟨K1, MX, 0, false, 0, n0, 1125899906842624⟩, 0)) := hide (by rw [HR.out, if_neg (by simp), if_neg (by simp [HZ3.out.1]), if_neg (by simp [HZ3.out.2.1]), if_neg (by simp [HZ3.out.2.2])]; simp [m1, m5])
                  clear HR HZ3 m1 m5
                  go_wp2_with fail
                  refine Calls.mono ((CZ.out) _ _ _ _ _ _ _ _ ((SF.out).set6 _)) ?_
                  rintro ee w7 ⟨rfl, hq⟩
                  have HQ := hide hq
                  clear hq
                  obtain ⟨y0, y1, y2, y3, y4, y5, y6⟩ := (HQ.out).sl.st.rc
                  have yz := (HQ.out).sl.st.rs.z
                  go_wp2_with fail
                  exact bodyPost_ret (v := stE R) (by rw [HV.out]; simp [results, Tryd.results6, go_sem, y0, y1, y2, y3, y4, y5, y6, stE, szC, raiseV]) rfl ⟨rfl, below_sz (HQ.out).sl.st.bel (by omega) _ _ _ _ _ _ _⟩
                · rcases eqk K5 1 with ⟨k1, k1b⟩ | ⟨k1, k1b⟩
                  · skip
                    have HV : Hid (R = (raiseV ⟨K1, MX, 0, true, n2, n0, 1125899906842624⟩, 0)) := hide (by rw [HR.out, if_neg (by simp), if_neg (by simp [HZ3.out.1]), if_neg (by simp [HZ3.out.2.1]), if_neg (by simp [HZ3.out.2.2])]; simp [m1, m5, k1])
                    clear HR HZ3 m1 m5
                    clear k1
                    go_wp2_with fail
                    refine Calls.mono ((CK.out) _ _ ((SF.out).set6 _)) ?_
                    rintro ee w6 ⟨rfl, hq⟩
                    have SG := hide hq
                    clear hq SF s0 s1 s2 s3 s4 s5 s6 sz x0 x1 x2 x3 x4 x5 x6 l0 l1 l2
                    obtain ⟨s0, s1, s2, s3, s4, s5, s6⟩ := (SG.out).sz.cells
                    have sz := (SG.out).sz.z
                    obtain ⟨l0, l1, l2⟩ := (SG.out).sl.lc
                    have neL := (SG.out).ne
                    go_wp2_with fail
                    go_region
                    go_wp2_with fail
                    refine Calls.mono ((CZ.out) _ _ _ _ _ _ _ _ ((((SG.out).set3 _).set4 _).drew)) ?_
                    rintro ee w7 ⟨rfl, hq⟩
                    have HQ := hide hq
                    clear hq
                    obtain ⟨y0, y1, y2, y3, y4, y5, y6⟩ := (HQ.out).sl.st.rc
                    have yz := (HQ.out).sl.st.rs.z
                    go_wp2_with fail
                    exact bodyPost_ret (v := stE R) (by rw [HV.out]; simp [results, Tryd.results6, go_sem, y0, y1, y2, y3, y4, y5, y6, stE, szC, raiseV]) rfl ⟨rfl, below_sz (HQ.out).sl.st.bel (by omega) _ _ _ _ _ _ _⟩
                  · skip
                    have HV : Hid (R = (raiseV ⟨K1, MX, 0, false, 0, n0, 1125899906842624⟩, 0)) := hide (by rw [HR.out, if_neg (by simp), if_neg (by simp [HZ3.out.1]), if_neg (by simp [HZ3.out.2.1]), if_neg (by simp [HZ3.out.2.2])]; simp [m1, m5, k1])
                    clear HR HZ3 m1 m5
                    clear k1
                    go_wp2_with fail
                    refine Calls.mono ((CK.out) _ _ ((SF.out).set6 _)) ?_
                    rintro ee w6 ⟨rfl, hq⟩
                    have SG := hide hq
                    clear hq SF s0 s1 s2 s3 s4 s5 s6 sz x0 x1 x2 x3 x4 x5 x6
                    obtain ⟨s0, s1, s2, s3, s4, s5, s6⟩ := (SG.out).sz.cells
                    go_wp2_with fail
                    refine Calls.mono ((CZ.out) _ _ _ _ _ _ _ _ (SG.out)) ?_
                    rintro ee w7 ⟨rfl, hq⟩
                    have HQ := hide hq
                    clear hq
                    obtain ⟨y0, y1, y2, y3, y4, y5, y6⟩ := (HQ.out).sl.st.rc
                    have yz := (HQ.out).sl.st.rs.z
                    go_wp2_with fail
                    exact bodyPost_ret (v := stE R) (by rw [HV.out]; simp [results, Tryd.results6, go_sem, y0, y1, y2, y3, y4, y5, y6, stE, szC, raiseV]) rfl ⟨rfl, below_sz (HQ.out).sl.st.bel (by omega) _ _ _ _ _ _ _⟩

end Go.Proofs.YtiiilalafeiobaaDoor
