/- How a track begins: the document's side. -/
import Derived.Test.YtiiilalafeiobaaDoorBas3p
namespace Go.Proofs.YtiiilalafeiobaaDoor
open Go.RowKit

theorem res_kind (k n size : Int) (d : Bool) : (kindV k d ≠ 1 → (resolV k n size d).1 = 0) ∧ ((resolV k n size d).2.2 = 0 → (resolV k n size d).2.1 = decide (kindV k d = 1)) := by
  unfold kindV resolV
  by_cases h3 : k = 3
  · subst h3
    cases d
    · simp
    · constructor
      · intro h
        simp at h
      · intro h
        simp at h ⊢
        exact h
  · by_cases h2 : k = 2
    · subst h2
      simp
    · simp [h3, h2]
      split <;> (try split) <;> (try split) <;> simp

/-- With the one that is made, without lengths. -/
structure StG (w W : World) (t : TrD) (S : Nat) (s : SzD) : Prop where
  st : StS w W t
  sz : SzR W S s
  lo : w.heap.size + 2 ≤ S

theorem StG.al {w W : World} {t : TrD} (h : StS w W t) (s : SzD) {S : Nat} (hS : S = W.heap.size) : StG w (W.alloc (.cells (szC s) 27)) t S s := by
  subst hS
  exact ⟨h.alloc _, SzR.new W s, h.sz⟩

theorem StG.next {w W W' : World} {t : TrD} {S : Nat} {s : SzD} (h : StG w W t S s) (hb : Below W.heap.size W W') : StG w W' t S s := ⟨h.st.next hb, h.sz.below hb h.sz.lt, h.lo⟩

theorem StG.alloc {w W : World} {t : TrD} {S : Nat} {s : SzD} (h : StG w W t S s) (o : Obj) : StG w (W.alloc o) t S s := h.next ((Below.refl _ W).alloc (Nat.le_refl _) o)

theorem StG.drew {w W : World} {t : TrD} {S : Nat} {s : SzD} (h : StG w W t S s) : StG w W.drew t S s := h.next (Below.refl _ W).drew

theorem StG.set {w W : World} {t : TrD} {S : Nat} {s s' : SzD} (h : StG w W t S s) (j : Nat) (v : Value) (hs : (szC s).setIfInBounds j v = szC s') : StG w (W.setCell ⟨S, j, none⟩ v) t S s' := by
  have hz : (W.setCell ⟨S, j, none⟩ v).heap[S]? = some (.cells ((szC s).setIfInBounds j v) 27 (0, 0)) := by
    simp [World.setCell, Array.getElem?_modify, show W.heap[S]? = _ from h.sz]
  rw [hs] at hz
  exact ⟨h.st.put h.lo _ _, hz, h.lo⟩

theorem StG.set6 {w W : World} {t : TrD} {S : Nat} {a b c e f g : Int} {q : Bool} (h : StG w W t S ⟨a, b, c, q, e, f, g⟩) (v : Int) : StG w (W.setCell ⟨S, 6, none⟩ (.int .i64 v)) t S ⟨a, b, c, q, e, f, v⟩ := h.set 6 _ rfl

theorem StG.set2 {w W : World} {t : TrD} {S : Nat} {a b c e f g : Int} {q : Bool} (h : StG w W t S ⟨a, b, c, q, e, f, g⟩) (v : Int) : StG w (W.setCell ⟨S, 2, none⟩ (.int .i64 v)) t S ⟨a, b, v, q, e, f, g⟩ := h.set 2 _ rfl

theorem StG.set3 {w W : World} {t : TrD} {S : Nat} {a b c e f g : Int} {q : Bool} (h : StG w W t S ⟨a, b, c, q, e, f, g⟩) (v : Bool) : StG w (W.setCell ⟨S, 3, none⟩ (.bool v)) t S ⟨a, b, c, v, e, f, g⟩ := h.set 3 _ rfl

theorem StG.set4 {w W : World} {t : TrD} {S : Nat} {a b c e f g : Int} {q : Bool} (h : StG w W t S ⟨a, b, c, q, e, f, g⟩) (v : Int) : StG w (W.setCell ⟨S, 4, none⟩ (.int .i64 v)) t S ⟨a, b, c, q, v, f, g⟩ := h.set 4 _ rfl

theorem StG.set5 {w W : World} {t : TrD} {S : Nat} {a b c e f g : Int} {q : Bool} (h : StG w W t S ⟨a, b, c, q, e, f, g⟩) (v : Int) : StG w (W.setCell ⟨S, 5, none⟩ (.int .i64 v)) t S ⟨a, b, c, q, e, v, g⟩ := h.set 5 _ rfl

theorem StS.four {w W : World} {a1 a2 a3 a4 a5 a6 : Int} {q : Bool} (h : StS w W ⟨(a1, a2), (a3, a4), q, (a5, a6)⟩) : W.cell? ⟨w.heap.size, 0, none⟩ = some (.int .i64 a1) ∧ W.cell? ⟨w.heap.size, 1, none⟩ = some (.int .i64 a2) ∧ W.cell? ⟨w.heap.size, 2, none⟩ = some (.int .i64 a3) ∧ W.cell? ⟨w.heap.size, 3, none⟩ = some (.int .i64 a4) := ⟨h.tc.1, h.tc.2.1, h.tc.2.2.1, h.tc.2.2.2.1⟩

theorem StS.drew {w W : World} {t : TrD} (h : StS w W t) : StS w W.drew t := h.next (Below.refl _ W).drew

set_option maxRecDepth 100000 in
set_option maxHeartbeats 8000000 in
theorem rstart22_any (t : TrD) (size : Int) (d : Bool) (w : World) : Calls Tryd.prog 7 #[.agg (trC t), .int .i64 size, .bool d] w fun e w' => e = .returned (stE (startV t size d)) ∧ Below w.heap.size w w' := by
  have ST0 := hide (StS.start w t)
  have CT := hide (fun W (h : StS w W t) => (rright_any t W).mono fun _ _ hh => And.intro hh.1 (h.next hh.2))
  have CR := hide (fun k n W (h : StS w W t) => (rresolve_any k n size d W).mono fun _ _ hh => And.intro hh.1 (h.next hh.2))
  obtain ⟨⟨a1, a2⟩, ⟨a3, a4⟩, q, ⟨a5, a6⟩⟩ := t
  have hr : startV ⟨(a1, a2), (a3, a4), q, (a5, a6)⟩ size d = if (rightB ⟨(a1, a2), (a3, a4), q, (a5, a6)⟩ && !(d && !isSz size)) = false then (noSz, 2)
    else if ¬ (resolV a1 a2 size d).2.2 = 0 then (noSz, (resolV a1 a2 size d).2.2)
    else if ¬ (resolV a3 a4 size d).2.2 = 0 then (noSz, (resolV a3 a4 size d).2.2)
    else if ¬ (resolV a5 a6 size d).2.2 = 0 then (noSz, (resolV a5 a6 size d).2.2)
    else (raiseV ⟨kindV a1 d, kindV a3 d, if kindV a3 d = 5 then a4 else 0, q && decide (kindV a5 d = 1), if (q && decide (kindV a5 d = 1)) = true then (resolV a5 a6 size d).1 else 0, (resolV a1 a2 size d).1, if kindV a3 d = 1 then (resolV a3 a4 size d).1 else 1125899906842624⟩, 0) := rfl
  have HR := hide hr
  have HIA := hide ((res_kind a1 a2 size d).1)
  have HI2 := hide ((res_kind a5 a6 size d).2)
  generalize startV ⟨(a1, a2), (a3, a4), q, (a5, a6)⟩ size d = R at *
  clear hr
  have C0 := hide (fun W h => (CR.out) a1 a2 W h)
  have C1 := hide (fun W h => (CR.out) a3 a4 W h)
  have C2 := hide (fun W h => (CR.out) a5 a6 W h)
  clear CR
  generalize resolV a1 a2 size d = r0 at *
  generalize resolV a3 a4 size d = r1 at *
  generalize resolV a5 a6 size d = r2 at *
  obtain ⟨n0, i0, e0⟩ := r0
  obtain ⟨n1, i1, e1⟩ := r1
  obtain ⟨n2, i2, e2⟩ := r2
  have HSZ := hide (isSz_iff size)
  generalize rightB ⟨(a1, a2), (a3, a4), q, (a5, a6)⟩ = RT at *
  generalize isSz size = IS at *
  unfold trC at ST0 CT ⊢
  unfold szC noSz at ST0
  unfold resE lenA at C0 C1 C2
  simp only at ST0 CT C0 C1 C2 HR HIA HI2 ⊢
  go_enter Tryd.func7, Tryd.ntmps7
  go_upto_region 1 with fail
  generalize ((w.alloc (.cells #[.int .i64 a1, .int .i64 a2, .int .i64 a3, .int .i64 a4, .bool q, .int .i64 a5, .int .i64 a6] 25)).alloc (.cells #[.int .i64 0, .int .i64 0, .int .i64 0, .bool false, .int .i64 0, .int .i64 0, .int .i64 0] 27)) = w1 at *
  obtain ⟨Y, hY⟩ : ∃ Y : Bool, Y = !(RT && !(d && !IS)) := ⟨_, rfl⟩
  have HY := hide hY
  clear hY
  go_cut [31] (fun b wx => b = .bool Y ∧ Hid (StS w wx ⟨(a1, a2), (a3, a4), q, (a5, a6)⟩))
  case first =>
    obtain ⟨x0, x1, x2, x3, x4, x5, x6⟩ := (ST0.out).tc
    clear HR C0 C1 C2 HIA HI2
    go_wp2_with fail
    refine Calls.mono ((CT.out) _ ST0.out) ?_
    rintro ee w2 ⟨rfl, hs⟩
    have ST1 := hide hs
    clear ST0 CT hs x0 x1 x2 x3 x4 x5 x6
    cases RT
    · go_wp2_with fail
      go_meet
      case rel => exact ⟨congrArg Value.bool (by rw [HY.out]; rfl), ST1⟩
    · cases d
      · go_wp2_with fail
        go_meet
        case rel => exact ⟨congrArg Value.bool (by rw [HY.out]; rfl), ST1⟩
      · by_cases h1 : size < 0
        · go_wp2_with fail
          go_meet
          case rel => exact ⟨congrArg Value.bool (by rw [HY.out, HSZ.out, decide_eq_false (by omega)]; rfl), ST1⟩
        · by_cases h2 : 68719476736 < size
          · go_wp2_with fail
            go_meet
            case rel => exact ⟨congrArg Value.bool (by rw [HY.out, HSZ.out, decide_eq_true (show 0 ≤ size by omega), decide_eq_false (show ¬ size ≤ 68719476736 by omega)]; rfl), ST1⟩
          · go_wp2_with fail
            go_meet
            case rel => exact ⟨congrArg Value.bool (by rw [HY.out, HSZ.out, decide_eq_true (show 0 ≤ size by omega), decide_eq_true (show size ≤ 68719476736 by omega)]; simp <;> omega), ST1⟩
  case rest =>
    obtain ⟨rfl, ST1⟩ := hcut
    clear CT ST0 HSZ
    obtain ⟨x0, x1, x2, x3, x4, x5, x6⟩ := (ST1.out).tc
    have HYX : Hid ((RT && !(d && !IS)) = !Y) := hide (by rw [HY.out, Bool.not_not])
    clear HY
    rw [HYX.out] at HR
    clear HYX
    cases Y
    rotate_left
    · have HV : Hid (R = (noSz, 2)) := hide (by rw [HR.out]; rfl)
      obtain ⟨y0, y1, y2, y3, y4, y5, y6⟩ := (ST1.out).rc
      have yz := (ST1.out).rs.z
      clear HR C0 C1 C2 HIA HI2
      go_wp2_with fail
      exact bodyPost_ret (v := stE (noSz, 2)) (by simp [results, Tryd.results7, go_sem, y0, y1, y2, y3, y4, y5, y6, stE, noSz, szC]) rfl ⟨by rw [HV.out], below_sz (ST1.out).bel (by omega) _ _ _ _ _ _ _⟩
    · go_wp2_with fail
      refine Calls.mono ((C0.out) _ ST1.out) ?_
      rintro ee w2 ⟨rfl, hs⟩
      have ST2 := hide hs
      clear ST1 C0 hs x0 x1 x2 x3 x4 x5 x6
      obtain ⟨x0, x1, x2, x3, x4, x5, x6⟩ := (ST2.out).tc
      go_wp2_with fail
      refine Calls.mono ((C1.out) _ ST2.out) ?_
      rintro ee w3 ⟨rfl, hs⟩
      have ST3 := hide hs
      clear ST2 C1 hs x0 x1 x2 x3 x4 x5 x6
      obtain ⟨x0, x1, x2, x3, x4, x5, x6⟩ := (ST3.out).tc
      go_wp2_with fail
      refine Calls.mono ((C2.out) _ ST3.out) ?_
      rintro ee w4 ⟨rfl, hs⟩
      have ST4 := hide hs
      clear ST3 C2 hs x0 x1 x2 x3 x4 x5 x6
      obtain ⟨x0, x1, x2, x3, x4, x5, x6⟩ := (ST4.out).tc
      rcases eqk e0 0 with ⟨h0, h0b⟩ | ⟨h0, h0b⟩
      rotate_left
      · have h0c : (e0 != 0) = true := by simp [h0]
        have HV : Hid (R = (noSz, e0)) := hide (by rw [HR.out, if_neg (by simp)]; rw [if_pos h0])
        obtain ⟨y0, y1, y2, y3, y4, y5, y6⟩ := (ST4.out).rc
        have yz := (ST4.out).rs.z
        clear HR HIA HI2 h0
        go_wp2_with fail
        exact bodyPost_ret (v := stE (noSz, e0)) (by simp [results, Tryd.results7, go_sem, y0, y1, y2, y3, y4, y5, y6, stE, noSz, szC]) rfl ⟨by rw [HV.out], below_sz (ST4.out).bel (by omega) _ _ _ _ _ _ _⟩
      have h0c : (e0 != 0) = false := by simp [h0]
      rcases eqk e1 0 with ⟨h1, h1b⟩ | ⟨h1, h1b⟩
      rotate_left
      · have h1c : (e1 != 0) = true := by simp [h1]
        have H0 := hide h0
        clear h0
        have HV : Hid (R = (noSz, e1)) := hide (by rw [HR.out, if_neg (by simp)]; rw [if_neg (fun h => h H0.out)]; rw [if_pos h1])
        obtain ⟨y0, y1, y2, y3, y4, y5, y6⟩ := (ST4.out).rc
        have yz := (ST4.out).rs.z
        clear HR HIA HI2 h1
        go_wp2_with fail
        exact bodyPost_ret (v := stE (noSz, e1)) (by simp [results, Tryd.results7, go_sem, y0, y1, y2, y3, y4, y5, y6, stE, noSz, szC]) rfl ⟨by rw [HV.out], below_sz (ST4.out).bel (by omega) _ _ _ _ _ _ _⟩
      have h1c : (e1 != 0) = false := by simp [h1]
      rcases eqk e2 0 with ⟨h2, h2b⟩ | ⟨h2, h2b⟩
      rotate_left
      · have h2c : (e2 != 0) = true := by simp [h2]
        have H0 := hide h0
        have H1 := hide h1
        clear h0 h1
        have HV : Hid (R = (noSz, e2)) := hide (by rw [HR.out, if_neg (by simp)]; rw [if_neg (fun h => h H0.out), if_neg (fun h => h H1.out)]; rw [if_pos h2])
        obtain ⟨y0, y1, y2, y3, y4, y5, y6⟩ := (ST4.out).rc
        have yz := (ST4.out).rs.z
        clear HR HIA HI2 h2
        go_wp2_with fail
        exact bodyPost_ret (v := stE (noSz, e2)) (by simp [results, Tryd.results7, go_sem, y0, y1, y2, y3, y4, y5, y6, stE, noSz, szC]) rfl ⟨by rw [HV.out], below_sz (ST4.out).bel (by omega) _ _ _ _ _ _ _⟩
      have h2c : (e2 != 0) = false := by simp [h2]
      have HZ3 : Hid (e0 = 0 ∧ e1 = 0 ∧ e2 = 0) := hide ⟨h0, h1, h2⟩
      have HI2' : Hid (i2 = decide (kindV a5 d = 1)) := hide (HI2.out h2)
      clear h0 h1 h2 HI2
      have HI2 := HI2'
      clear HI2'
      go_wp2_with fail
      have SL4 := hide (ST4.out).drew
      clear x0 x1 x2 x3 x4 x5 x6
      obtain ⟨x0, x1, x2, x3, x4, x5, x6⟩ := (SL4.out).tc
      obtain ⟨y0, y1, y2, y3, y4, y5, y6⟩ := (ST4.out).tc
      have p2 : w.heap.size < w4.heap.size := (ST4.out).tk.lt
      have hl2 : ¬ w.heap.size = w4.heap.size := by omega
      have hl4 : ¬ w.heap.size = w4.heap.size + 1 := by omega
      have hl6 : ¬ w.heap.size = w4.heap.size + 1 + 1 := by omega
      clear p2
      have CK := hide (fun k n W => rkind22_at k n d W)
      go_cut [17] (fun p wx => ∃ S, p = .pointer (some ⟨S, 0, none⟩) ∧ Hid (StG w wx ⟨(a1, a2), (a3, a4), q, (a5, a6)⟩ S ⟨kindV a1 d, kindV a3 d, 0, false, 0, 0, 1125899906842624⟩))
      case first =>
        clear HR
        go_region_held3 (fun w' => w'.cell? ⟨w.heap.size, 0, none⟩ = some (.int .i64 a1) ∧ w'.cell? ⟨w.heap.size, 1, none⟩ = some (.int .i64 a2) ∧ w'.cell? ⟨w.heap.size, 2, none⟩ = some (.int .i64 a3) ∧ w'.cell? ⟨w.heap.size, 3, none⟩ = some (.int .i64 a4))
          (first | exact (StS.drew ((((ST4.out).alloc _).alloc _).alloc _)).four | exact (StS.drew (((ST4.out).alloc _).alloc _)).four | exact (StS.drew ((ST4.out).alloc _)).four | exact (StS.drew (ST4.out)).four | exact (StG.al (((ST4.out).alloc _).alloc _) _ rfl).st.drew.four | exact ((StG.al ((ST4.out).alloc _) _ rfl).alloc _).st.drew.four | exact (((StG.al (ST4.out) _ rfl).alloc _).alloc _).st.drew.four | go_keep)
          (first | (go_at_call 22; refine Calls.mono ((CK.out) _ _ _) ?_; rintro ee w6 ⟨rfl, rfl⟩))
        · go_wp2_with fail
          go_meet
          case rel => exact ⟨w4.heap.size + 1 + 1, rfl, hide (StG.al (((ST4.out).alloc _).alloc _) ⟨kindV a1 d, kindV a3 d, 0, false, 0, 0, 1125899906842624⟩ (by simp)).drew⟩
        · go_wp2_with fail
          go_meet
          case rel => exact ⟨w4.heap.size + 1, rfl, hide ((StG.al ((ST4.out).alloc _) ⟨kindV a1 d, kindV a3 d, 0, false, 0, 0, 1125899906842624⟩ (by simp)).alloc _).drew⟩
        · go_wp2_with fail
          go_meet
          case rel => exact ⟨w4.heap.size, rfl, hide (((StG.al (ST4.out) ⟨kindV a1 d, kindV a3 d, 0, false, 0, 0, 1125899906842624⟩ rfl).alloc _).alloc _).drew⟩
      case rest =>
        clear SL4 ST4 x0 x1 x2 x3 x4 x5 x6 y0 y1 y2 y3 y4 y5 y6 hl2 hl4 hl6 CK
        obtain ⟨S, rfl, SF⟩ := hcut
        have CZ := hide (fun (c1 c2 c3 : Int) (c4 : Bool) (c5 c6 c7 : Int) W (h : StG w W ⟨(a1, a2), (a3, a4), q, (a5, a6)⟩ S ⟨c1, c2, c3, c4, c5, c6, c7⟩) => (rraise22_any ⟨c1, c2, c3, c4, c5, c6, c7⟩ W).mono fun _ _ hh => And.intro hh.1 (h.next hh.2))
        generalize kindV a1 d = K1 at *
        generalize kindV a3 d = MX at *
        generalize kindV a5 d = K5 at *
        obtain ⟨s0, s1, s2, s3, s4, s5, s6⟩ := (SF.out).sz.cells
        have sz := (SF.out).sz.z
        unfold szC raiseV at CZ
        simp only at CZ
        go_upto_if 83 with fail
        go_cut [] (fun wx => Hid (StG w wx ⟨(a1, a2), (a3, a4), q, (a5, a6)⟩ S ⟨K1, MX, 0, false, 0, n0, 1125899906842624⟩))
        case first =>
          clear HR CZ HI2
          rcases eqk K1 1 with ⟨m1, m1b⟩ | ⟨m1, m1b⟩
          · clear m1 HIA
            go_wp2_with fail
            go_meet
            case rel => exact hide ((SF.out).set5 _)
          · have hn : Hid (n0 = 0) := hide (HIA.out m1)
            clear m1 HIA
            go_wp2_with fail
            go_meet
            case rel => rw [hn.out]; exact SF
        case rest =>
          clear SF s0 s1 s2 s3 s4 s5 s6 sz HIA
          have SF := hcut
          clear hcut
          obtain ⟨x0, x1, x2, x3, x4, x5, x6⟩ := (SF.out).st.tc
          obtain ⟨s0, s1, s2, s3, s4, s5, s6⟩ := (SF.out).sz.cells
          have sz := (SF.out).sz.z
          have nS : ¬ w.heap.size = S := by have := (SF.out).lo; omega
          have nS2 : ¬ S = w.heap.size := by have := (SF.out).lo; omega
          rcases eqk MX 1 with ⟨m1, m1b⟩ | ⟨m1, m1b⟩
          · skip
            cases q
            · have HV : Hid (R = (raiseV ⟨K1, MX, 0, false, 0, n0, n1⟩, 0)) := hide (by rw [HR.out, if_neg (by simp), if_neg (by simp [HZ3.out.1]), if_neg (by simp [HZ3.out.2.1]), if_neg (by simp [HZ3.out.2.2])]; simp [m1])
              clear HR HZ3 HI2 m1
              go_wp2_with fail
              refine Calls.mono ((CZ.out) _ _ _ _ _ _ _ _ ((SF.out).set6 _)) ?_
              rintro ee w7 ⟨rfl, hq⟩
              have HQ := hide hq
              clear hq
              obtain ⟨y0, y1, y2, y3, y4, y5, y6⟩ := (HQ.out).st.rc
              have yz := (HQ.out).st.rs.z
              go_wp2_with fail
              exact bodyPost_ret (v := stE R) (by rw [HV.out]; simp [results, Tryd.results7, go_sem, y0, y1, y2, y3, y4, y5, y6, stE, szC, raiseV]) rfl ⟨rfl, below_sz (HQ.out).st.bel (by omega) _ _ _ _ _ _ _⟩
            · cases i2
              · have k1 := HI2.out
                have HV : Hid (R = (raiseV ⟨K1, MX, 0, false, 0, n0, n1⟩, 0)) := hide (by rw [HR.out, if_neg (by simp), if_neg (by simp [HZ3.out.1]), if_neg (by simp [HZ3.out.2.1]), if_neg (by simp [HZ3.out.2.2])]; simp [m1, ← k1])
                clear HR HZ3 HI2 k1 m1
                go_wp2_with fail
                refine Calls.mono ((CZ.out) _ _ _ _ _ _ _ _ ((SF.out).set6 _)) ?_
                rintro ee w7 ⟨rfl, hq⟩
                have HQ := hide hq
                clear hq
                obtain ⟨y0, y1, y2, y3, y4, y5, y6⟩ := (HQ.out).st.rc
                have yz := (HQ.out).st.rs.z
                go_wp2_with fail
                exact bodyPost_ret (v := stE R) (by rw [HV.out]; simp [results, Tryd.results7, go_sem, y0, y1, y2, y3, y4, y5, y6, stE, szC, raiseV]) rfl ⟨rfl, below_sz (HQ.out).st.bel (by omega) _ _ _ _ _ _ _⟩
              · have k1 := HI2.out
                have HV : Hid (R = (raiseV ⟨K1, MX, 0, true, n2, n0, n1⟩, 0)) := hide (by rw [HR.out, if_neg (by simp), if_neg (by simp [HZ3.out.1]), if_neg (by simp [HZ3.out.2.1]), if_neg (by simp [HZ3.out.2.2])]; simp [m1, ← k1])
                clear HR HZ3 HI2 k1 m1
                go_wp2_with fail
                refine Calls.mono ((CZ.out) _ _ _ _ _ _ _ _ ((((SF.out).set6 _).set3 _).set4 _)) ?_
                rintro ee w7 ⟨rfl, hq⟩
                have HQ := hide hq
                clear hq
                obtain ⟨y0, y1, y2, y3, y4, y5, y6⟩ := (HQ.out).st.rc
                have yz := (HQ.out).st.rs.z
                go_wp2_with fail
                exact bodyPost_ret (v := stE R) (by rw [HV.out]; simp [results, Tryd.results7, go_sem, y0, y1, y2, y3, y4, y5, y6, stE, szC, raiseV]) rfl ⟨rfl, below_sz (HQ.out).st.bel (by omega) _ _ _ _ _ _ _⟩
          · rcases eqk MX 5 with ⟨m5, m5b⟩ | ⟨m5, m5b⟩
            · skip
              cases q
              · have HV : Hid (R = (raiseV ⟨K1, MX, a4, false, 0, n0, 1125899906842624⟩, 0)) := hide (by rw [HR.out, if_neg (by simp), if_neg (by simp [HZ3.out.1]), if_neg (by simp [HZ3.out.2.1]), if_neg (by simp [HZ3.out.2.2])]; simp [m5])
                clear HR HZ3 HI2 m1 m5
                go_wp2_with fail
                refine Calls.mono ((CZ.out) _ _ _ _ _ _ _ _ ((SF.out).set2 _)) ?_
                rintro ee w7 ⟨rfl, hq⟩
                have HQ := hide hq
                clear hq
                obtain ⟨y0, y1, y2, y3, y4, y5, y6⟩ := (HQ.out).st.rc
                have yz := (HQ.out).st.rs.z
                go_wp2_with fail
                exact bodyPost_ret (v := stE R) (by rw [HV.out]; simp [results, Tryd.results7, go_sem, y0, y1, y2, y3, y4, y5, y6, stE, szC, raiseV]) rfl ⟨rfl, below_sz (HQ.out).st.bel (by omega) _ _ _ _ _ _ _⟩
              · cases i2
                · have k1 := HI2.out
                  have HV : Hid (R = (raiseV ⟨K1, MX, a4, false, 0, n0, 1125899906842624⟩, 0)) := hide (by rw [HR.out, if_neg (by simp), if_neg (by simp [HZ3.out.1]), if_neg (by simp [HZ3.out.2.1]), if_neg (by simp [HZ3.out.2.2])]; simp [m5, ← k1])
                  clear HR HZ3 HI2 k1 m1 m5
                  go_wp2_with fail
                  refine Calls.mono ((CZ.out) _ _ _ _ _ _ _ _ ((SF.out).set2 _)) ?_
                  rintro ee w7 ⟨rfl, hq⟩
                  have HQ := hide hq
                  clear hq
                  obtain ⟨y0, y1, y2, y3, y4, y5, y6⟩ := (HQ.out).st.rc
                  have yz := (HQ.out).st.rs.z
                  go_wp2_with fail
                  exact bodyPost_ret (v := stE R) (by rw [HV.out]; simp [results, Tryd.results7, go_sem, y0, y1, y2, y3, y4, y5, y6, stE, szC, raiseV]) rfl ⟨rfl, below_sz (HQ.out).st.bel (by omega) _ _ _ _ _ _ _⟩
                · have k1 := HI2.out
                  have HV : Hid (R = (raiseV ⟨K1, MX, a4, true, n2, n0, 1125899906842624⟩, 0)) := hide (by rw [HR.out, if_neg (by simp), if_neg (by simp [HZ3.out.1]), if_neg (by simp [HZ3.out.2.1]), if_neg (by simp [HZ3.out.2.2])]; simp [m5, ← k1])
                  clear HR HZ3 HI2 k1 m1 m5
                  go_wp2_with fail
                  refine Calls.mono ((CZ.out) _ _ _ _ _ _ _ _ ((((SF.out).set2 _).set3 _).set4 _)) ?_
                  rintro ee w7 ⟨rfl, hq⟩
                  have HQ := hide hq
                  clear hq
                  obtain ⟨y0, y1, y2, y3, y4, y5, y6⟩ := (HQ.out).st.rc
                  have yz := (HQ.out).st.rs.z
                  go_wp2_with fail
                  exact bodyPost_ret (v := stE R) (by rw [HV.out]; simp [results, Tryd.results7, go_sem, y0, y1, y2, y3, y4, y5, y6, stE, szC, raiseV]) rfl ⟨rfl, below_sz (HQ.out).st.bel (by omega) _ _ _ _ _ _ _⟩
            · skip
              cases q
              · have HV : Hid (R = (raiseV ⟨K1, MX, 0, false, 0, n0, 1125899906842624⟩, 0)) := hide (by rw [HR.out, if_neg (by simp), if_neg (by simp [HZ3.out.1]), if_neg (by simp [HZ3.out.2.1]), if_neg (by simp [HZ3.out.2.2])]; simp [m1, m5])
                clear HR HZ3 HI2 m1 m5
                go_wp2_with fail
                refine Calls.mono ((CZ.out) _ _ _ _ _ _ _ _ (SF.out)) ?_
                rintro ee w7 ⟨rfl, hq⟩
                have HQ := hide hq
                clear hq
                obtain ⟨y0, y1, y2, y3, y4, y5, y6⟩ := (HQ.out).st.rc
                have yz := (HQ.out).st.rs.z
                go_wp2_with fail
                exact bodyPost_ret (v := stE R) (by rw [HV.out]; simp [results, Tryd.results7, go_sem, y0, y1, y2, y3, y4, y5, y6, stE, szC, raiseV]) rfl ⟨rfl, below_sz (HQ.out).st.bel (by omega) _ _ _ _ _ _ _⟩
              · cases i2
                · have k1 := HI2.out
                  have HV : Hid (R = (raiseV ⟨K1, MX, 0, false, 0, n0, 1125899906842624⟩, 0)) := hide (by rw [HR.out, if_neg (by simp), if_neg (by simp [HZ3.out.1]), if_neg (by simp [HZ3.out.2.1]), if_neg (by simp [HZ3.out.2.2])]; simp [m1, m5, ← k1])
                  clear HR HZ3 HI2 k1 m1 m5
                  go_wp2_with fail
                  refine Calls.mono ((CZ.out) _ _ _ _ _ _ _ _ (SF.out)) ?_
                  rintro ee w7 ⟨rfl, hq⟩
                  have HQ := hide hq
                  clear hq
                  obtain ⟨y0, y1, y2, y3, y4, y5, y6⟩ := (HQ.out).st.rc
                  have yz := (HQ.out).st.rs.z
                  go_wp2_with fail
                  exact bodyPost_ret (v := stE R) (by rw [HV.out]; simp [results, Tryd.results7, go_sem, y0, y1, y2, y3, y4, y5, y6, stE, szC, raiseV]) rfl ⟨rfl, below_sz (HQ.out).st.bel (by omega) _ _ _ _ _ _ _⟩
                · have k1 := HI2.out
                  have HV : Hid (R = (raiseV ⟨K1, MX, 0, true, n2, n0, 1125899906842624⟩, 0)) := hide (by rw [HR.out, if_neg (by simp), if_neg (by simp [HZ3.out.1]), if_neg (by simp [HZ3.out.2.1]), if_neg (by simp [HZ3.out.2.2])]; simp [m1, m5, ← k1])
                  clear HR HZ3 HI2 k1 m1 m5
                  go_wp2_with fail
                  refine Calls.mono ((CZ.out) _ _ _ _ _ _ _ _ (((SF.out).set3 _).set4 _)) ?_
                  rintro ee w7 ⟨rfl, hq⟩
                  have HQ := hide hq
                  clear hq
                  obtain ⟨y0, y1, y2, y3, y4, y5, y6⟩ := (HQ.out).st.rc
                  have yz := (HQ.out).st.rs.z
                  go_wp2_with fail
                  exact bodyPost_ret (v := stE R) (by rw [HV.out]; simp [results, Tryd.results7, go_sem, y0, y1, y2, y3, y4, y5, y6, stE, szC, raiseV]) rfl ⟨rfl, below_sz (HQ.out).st.bel (by omega) _ _ _ _ _ _ _⟩

end Go.Proofs.YtiiilalafeiobaaDoor
