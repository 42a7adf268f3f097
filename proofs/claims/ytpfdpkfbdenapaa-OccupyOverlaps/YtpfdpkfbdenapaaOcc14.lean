/- Rectangles of tracks: what all have together, the document's way. -/
import Derived.Test.YtpfdpkfbdenapaaOcc13
namespace Go.Proofs.Ytpfdpkfbdenapaa
open Go.RowKit

/-- All cells of two blocks set. -/
def put8 (W : World) (B C : Nat) (s : BdD) : World :=
  (((((((W.setCell ⟨B, 0, none⟩ (.int .i64 s.a)).setCell ⟨B, 1, none⟩ (.int .i64 s.b)).setCell ⟨B, 2, none⟩ (.int .i64 0)).setCell ⟨B, 3, none⟩ (.int .i64 0)).setCell ⟨C, 0, none⟩ (.int .i64 s.e)).setCell ⟨C, 1, none⟩ (.int .i64 s.f)).setCell ⟨C, 2, none⟩ (.int .i64 0)).setCell ⟨C, 3, none⟩ (.int .i64 0)

theorem put8_lo {W : World} {B C : Nat} {x : ClD} (h : ClAt W B x) (hn : B ≠ C) (s : BdD) : ClAt (put8 W B C s) B ⟨s.a, s.b, 0, 0⟩ :=
  ((((h.put ⟨s.a, s.b, 0, 0⟩).oth _ _ _ hn).oth _ _ _ hn).oth _ _ _ hn).oth _ _ _ hn

theorem put8_hi {W : World} {B C : Nat} {x : ClD} (h : ClAt W C x) (hn : C ≠ B) (s : BdD) : ClAt (put8 W B C s) C ⟨s.e, s.f, 0, 0⟩ :=
  ((((h.oth B 0 _ hn).oth B 1 _ hn).oth B 2 _ hn).oth B 3 _ hn).put ⟨s.e, s.f, 0, 0⟩

theorem put8_oth {W : World} {B C k : Nat} {x : ClD} (h : ClAt W k x) (hB : k ≠ B) (hC : k ≠ C) (s : BdD) : ClAt (put8 W B C s) k x :=
  ((((((((h.oth B 0 _ hB).oth B 1 _ hB).oth B 2 _ hB).oth B 3 _ hB).oth C 0 _ hC).oth C 1 _ hC).oth C 2 _ hC).oth C 3 _ hC)

theorem put8_bel {w W : World} {B C : Nat} (h : Below w.heap.size w W) (hB : w.heap.size ≤ B) (hC : w.heap.size ≤ C) (s : BdD) : Below w.heap.size w (put8 W B C s) :=
  below_four19 (below_four19 h hB (.int .i64 s.a) (.int .i64 s.b) (.int .i64 0) (.int .i64 0)) hC (.int .i64 s.e) (.int .i64 s.f) (.int .i64 0) (.int .i64 0)

/-- Four boxes: two for what is told, two for the least lines and the greatest ends. -/
structure RbS (w W : World) (v : Value) (l : List ClD) (s : BdD) : Prop where
  r2 : ClAt W w.heap.size noC
  r3 : ClAt W (w.heap.size + 1) noC
  lo : ClAt W (w.heap.size + 1 + 1) ⟨s.a, s.b, 0, 0⟩
  hi : ClAt W (w.heap.size + 1 + 1 + 1) ⟨s.e, s.f, 0, 0⟩
  l : CsI W v l
  bel : Below w.heap.size w W

theorem RbS.next {w W W' : World} {v : Value} {l : List ClD} {s : BdD} (h : RbS w W v l s) (hb : Below W.heap.size W W') : RbS w W' v l s := ⟨h.r2.next hb, h.r3.next hb, h.lo.next hb, h.hi.next hb, h.l.below hb, h.bel.trans (hb.mono h.bel.size)⟩

theorem RbS.put {w W : World} {v : Value} {l : List ClD} {s : BdD} (h0 : CsI w v l) (h : RbS w W v l s) (s' : BdD) : RbS w (put8 W (w.heap.size + 1 + 1) (w.heap.size + 1 + 1 + 1) s') v l s' :=
  have hb := put8_bel (B := w.heap.size + 1 + 1) (C := w.heap.size + 1 + 1 + 1) h.bel (by omega) (by omega) s'
  ⟨put8_oth h.r2 (by omega) (by omega) s', put8_oth h.r3 (by omega) (by omega) s', put8_lo h.lo (by omega) s', put8_hi h.hi (by omega) s', h0.below hb, hb⟩

theorem RbS.new (w : World) (v : Value) (l : List ClD) (h : CsI w v l) :
    RbS w ((((w.alloc (.cells #[.int .i64 0, .int .i64 0, .int .i64 0, .int .i64 0] 24)).alloc (.cells #[.int .i64 0, .int .i64 0, .int .i64 0, .int .i64 0] 24)).alloc (.cells #[.int .i64 0, .int .i64 0, .int .i64 0, .int .i64 0] 24)).alloc (.cells #[.int .i64 0, .int .i64 0, .int .i64 0, .int .i64 0] 24)) v l ⟨0, 0, 0, 0⟩ := by
  have o1 := OvS.new w noC noC
  unfold noC at o1
  simp only at o1
  generalize hw1 : (w.alloc (.cells #[.int .i64 0, .int .i64 0, .int .i64 0, .int .i64 0] 24)).alloc (.cells #[.int .i64 0, .int .i64 0, .int .i64 0, .int .i64 0] 24) = w1 at *
  have hs : w1.heap.size = w.heap.size + 1 + 1 := by rw [← hw1]; simp
  have o2 := OvS.new w1 noC noC
  unfold noC at o2
  simp only at o2
  refine ⟨o1.a.next o2.bel, o1.b.next o2.bel, ?_, ?_, (h.below o1.bel).below o2.bel, o1.bel.trans (o2.bel.mono o1.bel.size)⟩
  · have := o2.a
    rw [hs] at this
    exact this
  · have := o2.b
    rw [hs] at this
    exact this

set_option maxRecDepth 100000 in
set_option maxHeartbeats 8000000 in
theorem rbounds19_any (l : List ClD) (v : Value) (w : World) (h : CsI w v l) (hl : l.length ≤ 1000000) :
    Calls Try.prog 11 #[v] w fun e w' => e = .returned (.tuple #[clA ⟨(bndU (bndP l)).a, (bndU (bndP l)).b, 0, 0⟩, clA ⟨(bndU (bndP l)).e, (bndU (bndP l)).f, 0, 0⟩]) ∧ Below w.heap.size w w' := by
  have ST0 : Hid (RbS w _ v l (bndU (bndP (l.take 0)))) := hide (RbS.new w v l h)
  have CR := hide (fun W r cc n m => (show Calls Try.prog 22 #[.agg #[.int .i64 r, .int .i64 cc, .int .i64 n, .int .i64 m]] W fun e w' => e = .returned (.bool (rightB ⟨r, cc, n, m⟩)) ∧ Below W.heap.size W w' from rgood19_any ⟨r, cc, n, m⟩ W))
  obtain ⟨N, hN⟩ : ∃ N, N = l.length := ⟨_, rfl⟩
  have HN := hide hN
  obtain ⟨ao, cap, rfl⟩ := h.slice
  rw [← hN] at h
  have H0 := hide h
  rw [← hN] at ST0 hl ⊢
  clear hN h
  unfold clA
  go_enter Try.func11, Try.ntmps11
  go_upto_region 3 with fail
  generalize World.alloc (World.alloc (World.alloc (World.alloc w _) _) _) _ = w0 at *
  go_wp2_with fail
  go_loopw [6, 7] (fun b i wr => ∃ k : Nat, k ≤ N ∧ i = .int .i64 (k : Int) ∧ b = .bool (bndP (l.take k)).isSome ∧ Hid (RbS w wr (.slice ao N cap) l (bndU (bndP (l.take k))))) (fun _ i _ => (N - intOf i).toNat)
  case atStart => exact ⟨0, Nat.zero_le _, by go_num, rfl, ST0⟩
  case round =>
    clear ST0
    obtain ⟨k, hk, rfl, rfl, ST⟩ := hrel
    by_cases hkl : k < N
    · have hi : (k : Int) < (N : Int) := by omega
      have hn2 : ¬ (k : Int) < 0 := by omega
      have hkl2 : k < l.length := by rw [← HN.out]; exact hkl
      rcases (ST.out).l with ⟨he, _⟩ | ⟨b, off, cap2, hv, hlt, hcell⟩
      · rw [he] at hkl2
        exact absurd hkl2 (Nat.not_lt_zero _)
      · obtain ⟨hao, -, -⟩ : ao = some ⟨b, off, none⟩ ∧ N = l.length ∧ cap = cap2 := by simpa using hv
        subst hao
        obtain ⟨x0, x1, x2, x3⟩ := CsI.four hcell k hkl2
        have HR0 := hide (fun hr => bnd_right hkl2 hr)
        have HK0 := hide (fun hr => bnd_skip hkl2 hr)
        generalize l.getD k noC = x at *
        have hba := (Below.refl _ wr).alloc (Nat.le_refl _) (.cells #[.int .i64 x.r, .int .i64 x.c, .int .i64 x.n, .int .i64 x.m] 24)
        have X1 := ClAt.new wr x
        have ST1 := hide ((ST.out).next hba)
        obtain ⟨xr, xc, xn, xm⟩ := x
        simp only at x0 x1 x2 x3 ST1 X1
        have hbr := fun hc => rightB_iff.1 (show rightB ⟨xr, xc, xn, xm⟩ = true from hc)
        have cr := fun W => (CR.out) W xr xc xn xm
        generalize hG : rightB ⟨xr, xc, xn, xm⟩ = G at cr
        have CR2 := hide cr
        simp only at hbr
        have hDg := (ST.out).hi.lt
        clear hv hcell hba cr
        go_upto_region 8 with fail
        generalize World.alloc wr _ = w1 at *
        generalize wr.heap.size = D at *
        have y0 := X1.c0
        have y1 := X1.c1
        have y2 := X1.c2
        have y3 := X1.c3
        simp only at y0 y1 y2 y3
        have HX1 := hide X1
        clear ST x0 x1 x2 x3 X1
        cases G
        · have HKK := hide ((HK0.out) hG)
          clear hbr hG HR0 HK0
          go_wp2_with (go_at_call 22; refine ((CR2.out) _).mono ?_; rintro e w2 ⟨rfl, hq⟩; have ST2 := hide ((ST1.out).next hq); clear hq)
          go_roundw
          case rel => exact ⟨k + 1, by omega, by go_num, by rw [HKK.out], hide (by rw [HKK.out]; exact ST2.out)⟩
          case measure => simp [intOf]; omega
        · have hbx := hbr hG
          obtain ⟨T, hT1, hT2, hT3⟩ := (HR0.out) hG
          have HTT := hide hT1
          have HT2 := hide hT2
          have HT3 := hide hT3
          generalize bndU (bndP (l.take k)) = s at *
          generalize (bndP (l.take k)).isSome = SB at *
          clear hbr hG HR0 HK0 hT1 hT2 hT3
          obtain ⟨sa, sb, se, sf⟩ := s
          go_upto_region 9 with (go_at_call 22; refine ((CR2.out) _).mono ?_; rintro e w2 ⟨rfl, hq⟩; have ST2 := hide ((ST1.out).next hq); have HX2 := hide ((HX1.out).next hq); clear hq)
          have y0 := (HX2.out).c0
          have y1 := (HX2.out).c1
          have y2 := (HX2.out).c2
          have y3 := (HX2.out).c3
          have u0 := (ST2.out).lo.c0
          have u1 := (ST2.out).lo.c1
          have u2 := (ST2.out).lo.c2
          have u3 := (ST2.out).lo.c3
          have v0 := (ST2.out).hi.c0
          have v1 := (ST2.out).hi.c1
          have v2 := (ST2.out).hi.c2
          have v3 := (ST2.out).hi.c3
          have k0 := (ST2.out).lo.z 0
          have k1 := (ST2.out).lo.z 1
          have k2 := (ST2.out).lo.z 2
          have k3 := (ST2.out).lo.z 3
          have k4 := (ST2.out).hi.z 0
          have k5 := (ST2.out).hi.z 1
          have k6 := (ST2.out).hi.z 2
          have k7 := (ST2.out).hi.z 3
          simp only at y0 y1 y2 y3 u0 u1 u2 u3 v0 v1 v2 v3
          have hD1 : ¬ D = w.heap.size + 1 + 1 := by omega
          have hD2 : ¬ D = w.heap.size + 1 + 1 + 1 := by omega
          have hD3 : ¬ w.heap.size + 1 + 1 + 1 = w.heap.size + 1 + 1 := by omega
          have hwr1 : IntKind.i64.wrap (xr + xn) = xr + xn := by simp [IntKind.wrap, IntKind.bits, IntKind.signed]; omega
          have hwr2 : IntKind.i64.wrap (xc + xm) = xc + xm := by simp [IntKind.wrap, IntKind.bits, IntKind.signed]; omega
          clear ST1 HX1 CR2
          cases SB
          · have ST8 := hide ((ST2.out).put H0.out ⟨xr, xc, xr + xn, xc + xm⟩)
            have HB8 : Hid (⟨xr, xc, xr + xn, xc + xm⟩ = T) := hide ((HT3.out) (by first | rfl | trivial))
            unfold put8 at ST8
            simp only at ST8
            go_wp2_with fail
            go_roundw
            case rel => exact ⟨k + 1, by omega, by go_num, by rw [HTT.out]; rfl, hide (by rw [HTT.out]; have := HB8.out; subst this; exact ST8.out)⟩
            case measure => simp [intOf]; omega
          · have ST8 := hide ((ST2.out).put H0.out ⟨min sa xr, min sb xc, max se (xr + xn), max sf (xc + xm)⟩)
            have HB8 : Hid (⟨min sa xr, min sb xc, max se (xr + xn), max sf (xc + xm)⟩ = T) := hide ((HT2.out) (by first | rfl | trivial))
            unfold put8 at ST8
            simp only at ST8
            go_wp2_with fail
            go_roundw
            case rel => exact ⟨k + 1, by omega, by go_num, by rw [HTT.out]; rfl, hide (by rw [HTT.out]; have := HB8.out; subst this; exact ST8.out)⟩
            case measure => simp [intOf]; omega
    · have hi : ¬ (k : Int) < (N : Int) := by omega
      obtain rfl : k = N := by omega
      have hkl : l.take k = l := by rw [HN.out, List.take_length]
      rw [hkl] at ST ⊢
      obtain ⟨s, hs⟩ : ∃ s, s = bndU (bndP l) := ⟨_, rfl⟩
      rw [← hs] at ST
      have HSS := hide hs
      clear hs
      generalize (bndP l).isSome = SB at *
      have u0 := (ST.out).lo.c0
      have u1 := (ST.out).lo.c1
      have u2 := (ST.out).lo.c2
      have u3 := (ST.out).lo.c3
      have v0 := (ST.out).hi.c0
      have v1 := (ST.out).hi.c1
      have v2 := (ST.out).hi.c2
      have v3 := (ST.out).hi.c3
      have r0 := (ST.out).r2.c0
      have r1 := (ST.out).r2.c1
      have r2 := (ST.out).r2.c2
      have r3 := (ST.out).r2.c3
      have t0 := (ST.out).r3.c0
      have t1 := (ST.out).r3.c1
      have t2 := (ST.out).r3.c2
      have t3 := (ST.out).r3.c3
      have k0 := (ST.out).r2.z 0
      have k1 := (ST.out).r2.z 1
      have k2 := (ST.out).r2.z 2
      have k3 := (ST.out).r2.z 3
      have k4 := (ST.out).r3.z 0
      have k5 := (ST.out).r3.z 1
      have k6 := (ST.out).r3.z 2
      have k7 := (ST.out).r3.z 3
      obtain ⟨sa, sb, se, sf⟩ := s
      simp only at u0 u1 u2 u3 v0 v1 v2 v3 r0 r1 r2 r3 t0 t1 t2 t3
      have hn1 : ¬ w.heap.size + 1 + 1 = w.heap.size := by omega
      have hn2 : ¬ w.heap.size + 1 + 1 + 1 = w.heap.size := by omega
      have hn3 : ¬ w.heap.size + 1 + 1 = w.heap.size + 1 := by omega
      have hn4 : ¬ w.heap.size + 1 + 1 + 1 = w.heap.size + 1 := by omega
      clear hkl CR
      go_upto_region 15 with fail
      go_region
      have L0 := set8_lo (ST.out).r2 ⟨sa, sb, se, sf⟩
      have L1 := set8_hi (ST.out).r3 ⟨sa, sb, se, sf⟩
      have L2 := hide (set8_bel (ST.out).bel ⟨sa, sb, se, sf⟩)
      unfold set8 at L0 L1 L2
      simp only at L0 L1 L2
      generalize World.drew _ = wf at *
      have u0 := L0.c0
      have u1 := L0.c1
      have u2 := L0.c2
      have u3 := L0.c3
      have v0 := L1.c0
      have v1 := L1.c1
      have v2 := L1.c2
      have v3 := L1.c3
      simp only at u0 u1 u2 u3 v0 v1 v2 v3
      go_wp2_with fail
      exact bodyPost_ret (v := .tuple #[.agg #[.int .i64 sa, .int .i64 sb, .int .i64 0, .int .i64 0], .agg #[.int .i64 se, .int .i64 sf, .int .i64 0, .int .i64 0]]) (by simp [results, Try.results11, go_sem, u0, u1, u2, u3, v0, v1, v2, v3]) rfl ⟨by rw [← HSS.out], L2.out⟩

end Go.Proofs.Ytpfdpkfbdenapaa
