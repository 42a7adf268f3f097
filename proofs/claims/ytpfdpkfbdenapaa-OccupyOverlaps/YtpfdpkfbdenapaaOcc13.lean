/- Rectangles of tracks: what all have together (Bounds). -/
import Derived.Test.YtpfdpkfbdenapaaOcc12
namespace Go.Proofs.Ytpfdpkfbdenapaa
open Go.RowKit

/-- Two boxes: the least lines, the greatest ends. -/
structure BnS (w W : World) (v : Value) (l : List ClD) (s : BdD) : Prop where
  lo : ClAt W w.heap.size ⟨s.a, s.b, 0, 0⟩
  hi : ClAt W (w.heap.size + 1) ⟨s.e, s.f, 0, 0⟩
  l : CsI W v l
  bel : Below w.heap.size w W

theorem BnS.next {w W W' : World} {v : Value} {l : List ClD} {s : BdD} (h : BnS w W v l s) (hb : Below W.heap.size W W') : BnS w W' v l s := ⟨h.lo.next hb, h.hi.next hb, h.l.below hb, h.bel.trans (hb.mono h.bel.size)⟩

/-- .. with a cell in a box, and its beginning and its end in two more. -/
structure BnX (w W : World) (v : Value) (l : List ClD) (s : BdD) (x : ClD) (P Q : Nat) : Prop where
  b : BnS w W v l s
  p : ClAt W P ⟨x.r, x.c, 0, 0⟩
  q : ClAt W Q ⟨x.r + x.n, x.c + x.m, 0, 0⟩
  hp : w.heap.size + 1 < P
  hq : w.heap.size + 1 < Q

theorem BnX.cells {w W : World} {v : Value} {l : List ClD} {s : BdD} {x : ClD} {P Q : Nat} (h : BnX w W v l s x P Q) :
    W.cell? ⟨w.heap.size, 0, none⟩ = some (.int .i64 s.a) ∧ W.cell? ⟨w.heap.size, 1, none⟩ = some (.int .i64 s.b) ∧ W.cell? ⟨w.heap.size, 2, none⟩ = some (.int .i64 0) ∧ W.cell? ⟨w.heap.size, 3, none⟩ = some (.int .i64 0) ∧
    W.cell? ⟨w.heap.size + 1, 0, none⟩ = some (.int .i64 s.e) ∧ W.cell? ⟨w.heap.size + 1, 1, none⟩ = some (.int .i64 s.f) ∧ W.cell? ⟨w.heap.size + 1, 2, none⟩ = some (.int .i64 0) ∧ W.cell? ⟨w.heap.size + 1, 3, none⟩ = some (.int .i64 0) ∧
    W.cell? ⟨P, 0, none⟩ = some (.int .i64 x.r) ∧ W.cell? ⟨P, 1, none⟩ = some (.int .i64 x.c) ∧ W.cell? ⟨P, 2, none⟩ = some (.int .i64 0) ∧ W.cell? ⟨P, 3, none⟩ = some (.int .i64 0) ∧
    W.cell? ⟨Q, 0, none⟩ = some (.int .i64 (x.r + x.n)) ∧ W.cell? ⟨Q, 1, none⟩ = some (.int .i64 (x.c + x.m)) ∧ W.cell? ⟨Q, 2, none⟩ = some (.int .i64 0) ∧ W.cell? ⟨Q, 3, none⟩ = some (.int .i64 0) ∧
    W.frozen? ⟨w.heap.size, 0, none⟩ = false ∧ W.frozen? ⟨w.heap.size, 1, none⟩ = false ∧ W.frozen? ⟨w.heap.size, 2, none⟩ = false ∧ W.frozen? ⟨w.heap.size, 3, none⟩ = false ∧
    W.frozen? ⟨w.heap.size + 1, 0, none⟩ = false ∧ W.frozen? ⟨w.heap.size + 1, 1, none⟩ = false ∧ W.frozen? ⟨w.heap.size + 1, 2, none⟩ = false ∧ W.frozen? ⟨w.heap.size + 1, 3, none⟩ = false ∧
    ¬ P = w.heap.size ∧ ¬ P = w.heap.size + 1 ∧ ¬ Q = w.heap.size ∧ ¬ Q = w.heap.size + 1 ∧ w.heap.size ≠ w.heap.size + 1 :=
  ⟨h.b.lo.c0, h.b.lo.c1, h.b.lo.c2, h.b.lo.c3, h.b.hi.c0, h.b.hi.c1, h.b.hi.c2, h.b.hi.c3, h.p.c0, h.p.c1, h.p.c2, h.p.c3, h.q.c0, h.q.c1, h.q.c2, h.q.c3, h.b.lo.z 0, h.b.lo.z 1, h.b.lo.z 2, h.b.lo.z 3, h.b.hi.z 0, h.b.hi.z 1, h.b.hi.z 2, h.b.hi.z 3, by have := h.hp; omega, by have := h.hp; omega, by have := h.hq; omega, by have := h.hq; omega, by omega⟩

theorem BnX.re {w W W' : World} {v : Value} {l : List ClD} {s s' : BdD} {x : ClD} {P Q : Nat} (h0 : CsI w v l) (h : BnX w W v l s x P Q) (lo : ClAt W' w.heap.size ⟨s'.a, s'.b, 0, 0⟩) (hi : ClAt W' (w.heap.size + 1) ⟨s'.e, s'.f, 0, 0⟩)
    (hbl : ∀ k, w.heap.size + 1 < k → W'.heap[k]? = W.heap[k]?) (bel : Below w.heap.size w W') : BnX w W' v l s' x P Q :=
  ⟨⟨lo, hi, h0.below bel, bel⟩, (hbl P h.hp).trans h.p, (hbl Q h.hq).trans h.q, h.hp, h.hq⟩

theorem heap_oth (W : World) (b j k : Nat) (u : Value) (h : k ≠ b) : (W.setCell ⟨b, j, none⟩ u).heap[k]? = W.heap[k]? := Below.heap_setCell W ⟨b, j, none⟩ u k h

theorem ClAt.oth {w : World} {k : Nat} {x : ClD} (h : ClAt w k x) (b j : Nat) (u : Value) (hb : k ≠ b) : ClAt (w.setCell ⟨b, j, none⟩ u) k x := (heap_oth w b j k u hb).trans h

theorem ClAt.drew {w : World} {k : Nat} {x : ClD} (h : ClAt w k x) : ClAt w.drew k x := h

theorem BnX.lo2 {w W : World} {v : Value} {l : List ClD} {s : BdD} {x : ClD} {P Q : Nat} (h0 : CsI w v l) (h : BnX w W v l s x P Q) (p q : Int) :
    BnX w ((W.setCell ⟨w.heap.size, 0, none⟩ (.int .i64 p)).setCell ⟨w.heap.size, 1, none⟩ (.int .i64 q)).drew v l ⟨p, q, s.e, s.f⟩ x P Q :=
  h.re h0 ((h.b.lo.set0 p).set1 q).drew ((h.b.hi.oth _ _ _ (by omega)).oth _ _ _ (by omega)).drew (fun k hk => (heap_oth _ _ _ _ _ (by omega)).trans (heap_oth _ _ _ _ _ (by omega)))
    ((h.b.bel.setCell (p := ⟨w.heap.size, 0, none⟩) (Nat.le_refl _) _).setCell (p := ⟨w.heap.size, 1, none⟩) (Nat.le_refl _) _).drew

theorem BnX.hi2 {w W : World} {v : Value} {l : List ClD} {s : BdD} {x : ClD} {P Q : Nat} (h0 : CsI w v l) (h : BnX w W v l s x P Q) (p q : Int) :
    BnX w ((W.setCell ⟨w.heap.size + 1, 0, none⟩ (.int .i64 p)).setCell ⟨w.heap.size + 1, 1, none⟩ (.int .i64 q)).drew v l ⟨s.a, s.b, p, q⟩ x P Q :=
  h.re h0 ((h.b.lo.oth _ _ _ (by omega)).oth _ _ _ (by omega)).drew ((h.b.hi.set0 p).set1 q).drew (fun k hk => (heap_oth _ _ _ _ _ (by omega)).trans (heap_oth _ _ _ _ _ (by omega)))
    ((h.b.bel.setCell (p := ⟨w.heap.size + 1, 0, none⟩) (Nat.le_succ _) _).setCell (p := ⟨w.heap.size + 1, 1, none⟩) (Nat.le_succ _) _).drew

/-- All cells of two blocks set. -/
def set8 (W : World) (B : Nat) (s : BdD) : World :=
  ((((((((W.setCell ⟨B, 0, none⟩ (.int .i64 s.a)).setCell ⟨B, 1, none⟩ (.int .i64 s.b)).setCell ⟨B, 2, none⟩ (.int .i64 0)).setCell ⟨B, 3, none⟩ (.int .i64 0)).setCell ⟨B + 1, 0, none⟩ (.int .i64 s.e)).setCell ⟨B + 1, 1, none⟩ (.int .i64 s.f)).setCell ⟨B + 1, 2, none⟩ (.int .i64 0)).setCell ⟨B + 1, 3, none⟩ (.int .i64 0)).drew

theorem set8_lo {W : World} {B : Nat} {x : ClD} (h : ClAt W B x) (s : BdD) : ClAt (set8 W B s) B ⟨s.a, s.b, 0, 0⟩ :=
  (((((h.put ⟨s.a, s.b, 0, 0⟩).oth _ _ _ (by omega)).oth _ _ _ (by omega)).oth _ _ _ (by omega)).oth _ _ _ (by omega)).drew

theorem set8_hi {W : World} {B : Nat} {x : ClD} (h : ClAt W (B + 1) x) (s : BdD) : ClAt (set8 W B s) (B + 1) ⟨s.e, s.f, 0, 0⟩ :=
  (((((h.oth B 0 _ (by omega)).oth B 1 _ (by omega)).oth B 2 _ (by omega)).oth B 3 _ (by omega)).put ⟨s.e, s.f, 0, 0⟩).drew

theorem set8_bl (W : World) (B k : Nat) (s : BdD) (h : B + 1 < k) : (set8 W B s).heap[k]? = W.heap[k]? := by
  have e : ∀ W' : World, W'.drew.heap = W'.heap := fun _ => rfl
  unfold set8
  rw [e]
  repeat rw [heap_oth _ _ _ _ _ (by omega)]

theorem set8_bel {w W : World} (h : Below w.heap.size w W) (s : BdD) : Below w.heap.size w (set8 W w.heap.size s) := by
  have h1 := below_four19 (below_four19 h (Nat.le_refl _) (.int .i64 s.a) (.int .i64 s.b) (.int .i64 0) (.int .i64 0)) (Nat.le_succ w.heap.size) (.int .i64 s.e) (.int .i64 s.f) (.int .i64 0) (.int .i64 0)
  exact h1.drew

theorem bnd_right {l : List ClD} {k : Nat} (hk : k < l.length) (hr : rightB (l.getD k noC) = true) :
    ∃ T, bndP (l.take (k + 1)) = some T ∧ ((bndP (l.take k)).isSome = true → bdJ (bndU (bndP (l.take k))) (l.getD k noC) = T) ∧ ((bndP (l.take k)).isSome = false → bdOf (l.getD k noC) = T) := by
  have e : bndP (l.take (k + 1)) = bdS (bndP (l.take k)) (l.getD k noC) := by
    unfold bndP
    rw [take_one l k hk, List.foldl_append]
    rfl
  rw [e]
  unfold bdS
  rw [if_pos hr]
  cases bndP (l.take k) with
  | none => exact ⟨_, rfl, fun h => by simp at h, fun _ => rfl⟩
  | some s => exact ⟨_, rfl, fun _ => rfl, fun h => by simp at h⟩

theorem bnd_skip {l : List ClD} {k : Nat} (hk : k < l.length) (hr : rightB (l.getD k noC) = false) : bndP (l.take (k + 1)) = bndP (l.take k) := by
  have e : bndP (l.take (k + 1)) = bdS (bndP (l.take k)) (l.getD k noC) := by
    unfold bndP
    rw [take_one l k hk, List.foldl_append]
    rfl
  rw [e]
  unfold bdS
  rw [if_neg (by rw [hr]; decide)]

theorem OvS.drew {w W : World} {a b : ClD} (h : OvS w W a b) : OvS w W.drew a b := h.next (Below.refl _ W).drew

theorem BnX.mk2 {w W : World} {v : Value} {l : List ClD} {s : BdD} {x : ClD} (h : BnS w W v l s) :
    BnX w ((W.alloc (.cells #[.int .i64 x.r, .int .i64 x.c, .int .i64 0, .int .i64 0] 24)).alloc (.cells #[.int .i64 (x.r + x.n), .int .i64 (x.c + x.m), .int .i64 0, .int .i64 0] 24)).drew v l s x W.heap.size (W.heap.size + 1) := by
  have o := OvS.new W ⟨x.r, x.c, 0, 0⟩ ⟨x.r + x.n, x.c + x.m, 0, 0⟩
  have o2 := o.drew
  have hl := h.hi.lt
  exact ⟨h.next o2.bel, o2.a, o2.b, hl, by omega⟩

theorem BnX.mk3 {w W : World} {v : Value} {l : List ClD} {s : BdD} {x : ClD} (h : BnS w W v l s) :
    BnX w ((W.alloc (.cells #[.int .i64 (x.r + x.n), .int .i64 (x.c + x.m), .int .i64 0, .int .i64 0] 24)).alloc (.cells #[.int .i64 x.r, .int .i64 x.c, .int .i64 0, .int .i64 0] 24)).drew v l s x (W.heap.size + 1) W.heap.size := by
  have o := OvS.new W ⟨x.r + x.n, x.c + x.m, 0, 0⟩ ⟨x.r, x.c, 0, 0⟩
  have o2 := o.drew
  have hl := h.hi.lt
  exact ⟨h.next o2.bel, o2.b, o2.a, by omega, hl⟩

set_option maxRecDepth 100000 in
set_option maxHeartbeats 8000000 in
theorem bounds19_any (l : List ClD) (v : Value) (w : World) (h : CsI w v l) (hl : l.length ≤ 1000000) :
    Calls Try.prog 10 #[v] w fun e w' => e = .returned (.tuple #[clA ⟨(bndU (bndP l)).a, (bndU (bndP l)).b, 0, 0⟩, clA ⟨(bndU (bndP l)).e, (bndU (bndP l)).f, 0, 0⟩]) ∧ Below w.heap.size w w' := by
  have hb := ((Below.refl _ w).alloc (Nat.le_refl _) (.cells #[.int .i64 0, .int .i64 0, .int .i64 0, .int .i64 0] 24))
  have hb2 := (Below.refl _ (w.alloc (.cells #[.int .i64 0, .int .i64 0, .int .i64 0, .int .i64 0] 24))).alloc (Nat.le_refl _) (.cells #[.int .i64 0, .int .i64 0, .int .i64 0, .int .i64 0] 24)
  have hs : (w.alloc (.cells #[.int .i64 0, .int .i64 0, .int .i64 0, .int .i64 0] 24)).heap.size = w.heap.size + 1 := by simp
  have hN2 := ClAt.new (w.alloc (.cells #[.int .i64 0, .int .i64 0, .int .i64 0, .int .i64 0] 24)) ⟨0, 0, 0, 0⟩
  rw [hs] at hN2
  have ST0 : Hid (BnS w ((w.alloc (.cells #[.int .i64 0, .int .i64 0, .int .i64 0, .int .i64 0] 24)).alloc (.cells #[.int .i64 0, .int .i64 0, .int .i64 0, .int .i64 0] 24)) v l (bndU (bndP (l.take 0)))) := hide ⟨(ClAt.new w ⟨0, 0, 0, 0⟩).next hb2, hN2, (h.below hb).below hb2, hb.trans (hb2.mono hb.size)⟩
  have CR := hide (fun W r cc n m => (show Calls Try.prog 29 #[.agg #[.int .i64 r, .int .i64 cc, .int .i64 n, .int .i64 m]] W fun e w' => e = .returned (.bool (rightB ⟨r, cc, n, m⟩)) ∧ Below W.heap.size W w' from right19_any ⟨r, cc, n, m⟩ W))
  obtain ⟨N, hN⟩ : ∃ N, N = l.length := ⟨_, rfl⟩
  have HN := hide hN
  obtain ⟨ao, cap, rfl⟩ := h.slice
  rw [← hN] at h
  have H0 := hide h
  rw [← hN] at ST0 hl ⊢
  clear hb hb2 hs hN2 hN h
  unfold clA
  (try simp only at ST0)
  go_enter Try.func10, Try.ntmps10
  go_upto_region 1 with fail
  generalize World.alloc (World.alloc w _) _ = w0 at *
  go_wp2_with fail
  go_loopw [4, 11] (fun b i wr => ∃ k : Nat, k ≤ N ∧ i = .int .i64 (k : Int) ∧ b = .bool (bndP (l.take k)).isSome ∧ Hid (BnS w wr (.slice ao N cap) l (bndU (bndP (l.take k))))) (fun _ i _ => (N - intOf i).toNat)
  case atStart => exact ⟨0, Nat.zero_le _, by go_num, rfl, ST0⟩
  case round =>
    clear ST0
    obtain ⟨k, hk, rfl, rfl, ST⟩ := hrel
    by_cases hkl : k < N
    · have hi : (k : Int) < (N : Int) := by omega
      have hkl2 : k < l.length := by rw [← HN.out]; exact hkl
      rcases (ST.out).l with ⟨he, _⟩ | ⟨b, off, cap2, hv, hlt, hcell⟩
      · rw [he] at hkl2
        exact absurd hkl2 (Nat.not_lt_zero _)
      · obtain ⟨hao, -, -⟩ : ao = some ⟨b, off, none⟩ ∧ N = l.length ∧ cap = cap2 := by simpa using hv
        subst hao
        obtain ⟨x0, x1, x2, x3⟩ := CsI.four hcell k hkl2
        have HR0 := hide (fun hr => bnd_right hkl2 hr)
        have HK0 := hide (fun hr => bnd_skip hkl2 hr)
        generalize l.getD k noC = x at *
        have hba := (Below.refl _ wr).alloc (Nat.le_refl _) (.cells #[.int .i64 x.r, .int .i64 x.c, .int .i64 x.n, .int .i64 x.m] 24)
        have X1 := ClAt.new wr x
        have ST1 := hide ((ST.out).next hba)
        obtain ⟨xr, xc, xn, xm⟩ := x
        simp only at x0 x1 x2 x3 ST1 X1
        have hbr := fun hc => rightB_iff.1 (show rightB ⟨xr, xc, xn, xm⟩ = true from hc)
        have cr := fun W => (CR.out) W xr xc xn xm
        generalize hG : rightB ⟨xr, xc, xn, xm⟩ = G at cr
        have CR2 := hide cr
        simp only at hbr
        clear hv hcell hba cr
        go_upto_region 5 with fail
        generalize World.alloc wr _ = w1 at *
        generalize wr.heap.size = D at *
        have y0 := X1.c0
        have y1 := X1.c1
        have y2 := X1.c2
        have y3 := X1.c3
        simp only at y0 y1 y2 y3
        have HX1 := hide X1
        clear ST x0 x1 x2 x3 X1
        cases G
        · have HKK := hide ((HK0.out) hG)
          clear hbr hG HR0 HK0
          go_wp2_with (go_at_call 29; refine ((CR2.out) _).mono ?_; rintro e w2 ⟨rfl, hq⟩; have ST2 := hide ((ST1.out).next hq); clear hq)
          go_roundw
          case rel => exact ⟨k + 1, by omega, by go_num, by rw [HKK.out], hide (by rw [HKK.out]; exact ST2.out)⟩
          case measure => simp [intOf]; omega
        · have hbx := hbr hG
          obtain ⟨T, hT1, hT2, hT3⟩ := (HR0.out) hG
          have HTT := hide hT1
          have HT2 := hide hT2
          have HT3 := hide hT3
          generalize bndU (bndP (l.take k)) = s at *
          generalize (bndP (l.take k)).isSome = SB at *
          clear hbr hG HR0 HK0 hT1 hT2 hT3
          go_wp2_with (go_at_call 29; refine ((CR2.out) _).mono ?_; rintro e w2 ⟨rfl, hq⟩; have ST2 := hide ((ST1.out).next hq); have HX2 := hide ((HX1.out).next hq); clear hq)
          have y0 := (HX2.out).c0
          have y1 := (HX2.out).c1
          have y2 := (HX2.out).c2
          have y3 := (HX2.out).c3
          simp only at y0 y1 y2 y3
          have hDl := (HX2.out).lt
          have hD1 : ¬ D = w2.heap.size := by omega
          have hD2 : ¬ D = w2.heap.size + 1 := by omega
          have hD3 : ¬ w2.heap.size = D := by omega
          have hD4 : ¬ w2.heap.size + 1 = D := by omega
          have hwr1 : IntKind.i64.wrap (xr + xn) = xr + xn := by simp [IntKind.wrap, IntKind.bits, IntKind.signed]; omega
          have hwr2 : IntKind.i64.wrap (xc + xm) = xc + xm := by simp [IntKind.wrap, IntKind.bits, IntKind.signed]; omega
          clear ST1 HX1 CR2
          go_cut [7, 8] (fun s7 s8 wx => ∃ P Q, s7 = .pointer (some ⟨P, 0, none⟩) ∧ s8 = .pointer (some ⟨Q, 0, none⟩) ∧ Hid (BnX w wx (.slice (some ⟨b, off, none⟩) N cap) l s ⟨xr, xc, xn, xm⟩ P Q))
          case first =>
            go_region_held3 (fun w' => w'.cell? ⟨D, 0, none⟩ = some (.int .i64 xr) ∧ w'.cell? ⟨D, 1, none⟩ = some (.int .i64 xc) ∧ w'.cell? ⟨D, 2, none⟩ = some (.int .i64 xn) ∧ w'.cell? ⟨D, 3, none⟩ = some (.int .i64 xm)) (go_keep) (fail)
            · go_wp2_with fail
              go_meet
              exact ⟨_, _, rfl, rfl, hide (BnX.mk2 (x := ⟨xr, xc, xn, xm⟩) ST2.out)⟩
            · go_wp2_with fail
              go_meet
              exact ⟨_, _, rfl, rfl, hide (BnX.mk3 (x := ⟨xr, xc, xn, xm⟩) ST2.out)⟩
          case rest =>
            clear ST2 HX2 hD1 hD2 hD3 hD4 hDl hwr1 hwr2 y0 y1 y2 y3
            obtain ⟨P, Q, rfl, rfl, ST3⟩ := hcut
            obtain ⟨u0, u1, u2, u3, v0, v1, v2, v3, z0, z1, z2, z3, t0, t1, t2, t3, k0, k1, k2, k3, k4, k5, k6, k7, g1, g2, g3, g4, g5⟩ := (ST3.out).cells
            simp only at u0 u1 u2 u3 v0 v1 v2 v3 z0 z1 z2 z3 t0 t1 t2 t3
            go_upto_if 35 with fail
            go_cut [4] (fun s4 wx => s4 = .bool true ∧ ∃ s' : BdD, Hid (bdJ s' ⟨xr, xc, xn, xm⟩ = T) ∧ Hid (BnX w wx (.slice (some ⟨b, off, none⟩) N cap) l s' ⟨xr, xc, xn, xm⟩ P Q))
            case first =>
              cases SB
              · have ST8 : Hid (BnX w (set8 wc w.heap.size ⟨xr, xc, xr + xn, xc + xm⟩) (.slice (some ⟨b, off, none⟩) N cap) l ⟨xr, xc, xr + xn, xc + xm⟩ ⟨xr, xc, xn, xm⟩ P Q) := hide ((ST3.out).re H0.out (set8_lo (ST3.out).b.lo ⟨xr, xc, xr + xn, xc + xm⟩) (set8_hi (ST3.out).b.hi ⟨xr, xc, xr + xn, xc + xm⟩) (fun k hk => set8_bl _ _ k _ hk) (set8_bel (ST3.out).b.bel _))
                have HB8 : Hid (bdJ ⟨xr, xc, xr + xn, xc + xm⟩ ⟨xr, xc, xn, xm⟩ = T) := hide ((bdJ_self ⟨xr, xc, xn, xm⟩).trans ((HT3.out) (by first | rfl | trivial)))
                unfold set8 at ST8
                simp only at ST8
                go_wp2_with fail
                go_region
                go_wp2_with fail
                go_meet
                exact ⟨rfl, ⟨xr, xc, xr + xn, xc + xm⟩, HB8, ST8⟩
              · go_wp2_with fail
                go_meet
                exact ⟨rfl, s, hide ((HT2.out) (by first | rfl | trivial)), ST3⟩
            case rest =>
              clear ST3 u0 u1 u2 u3 v0 v1 v2 v3 z0 z1 z2 z3 t0 t1 t2 t3 k0 k1 k2 k3 k4 k5 k6 k7
              obtain ⟨rfl, s', HT, ST4⟩ := hcut
              obtain ⟨sa, sb, se, sf⟩ := s'
              obtain ⟨u0, u1, u2, u3, v0, v1, v2, v3, z0, z1, z2, z3, t0, t1, t2, t3, k0, k1, k2, k3, k4, k5, k6, k7, g1, g2, g3, g4, g5⟩ := (ST4.out).cells
              simp only at u0 u1 u2 u3 v0 v1 v2 v3 z0 z1 z2 z3 t0 t1 t2 t3
              go_upto_region 9 with fail
              go_cut [] (fun wx => Hid (BnX w wx (.slice (some ⟨b, off, none⟩) N cap) l ⟨min sa xr, min sb xc, se, sf⟩ ⟨xr, xc, xn, xm⟩ P Q))
              case first =>
                go_region
                go_wp2_with fail
                go_meet
                exact hide ((ST4.out).lo2 H0.out _ _)
              case rest =>
                clear ST4 u0 u1 u2 u3 v0 v1 v2 v3 z0 z1 z2 z3 t0 t1 t2 t3 k0 k1 k2 k3 k4 k5 k6 k7
                have ST5 := hcut
                obtain ⟨u0, u1, u2, u3, v0, v1, v2, v3, z0, z1, z2, z3, t0, t1, t2, t3, k0, k1, k2, k3, k4, k5, k6, k7, g1, g2, g3, g4, g5⟩ := (ST5.out).cells
                simp only at u0 u1 u2 u3 v0 v1 v2 v3 z0 z1 z2 z3 t0 t1 t2 t3
                go_upto_region 10 with fail
                go_region
                have ST6 := hide ((ST5.out).hi2 H0.out (max se (xr + xn)) (max sf (xc + xm)))
                go_wp2_with fail
                go_roundw
                case rel => exact ⟨k + 1, by omega, by go_num, by rw [HTT.out]; rfl, hide (by rw [HTT.out]; have := HT.out; subst this; exact (ST6.out).b)⟩
                case measure => simp [intOf]; omega
    · have hi : ¬ (k : Int) < (N : Int) := by omega
      obtain rfl : k = N := by omega
      have hkl : l.take k = l := by rw [HN.out, List.take_length]
      rw [hkl] at ST ⊢
      obtain ⟨s, hs⟩ : ∃ s, s = bndU (bndP l) := ⟨_, rfl⟩
      rw [← hs] at ST
      have HSS := hide hs
      clear hs
      generalize (bndP l).isSome = SB at *
      have u0 := (ST.out).lo.c0
      have u1 := (ST.out).lo.c1
      have u2 := (ST.out).lo.c2
      have u3 := (ST.out).lo.c3
      have v0 := (ST.out).hi.c0
      have v1 := (ST.out).hi.c1
      have v2 := (ST.out).hi.c2
      have v3 := (ST.out).hi.c3
      have k0 := (ST.out).lo.z 0
      have k1 := (ST.out).lo.z 1
      have k2 := (ST.out).lo.z 2
      have k3 := (ST.out).lo.z 3
      have k4 := (ST.out).hi.z 0
      have k5 := (ST.out).hi.z 1
      have k6 := (ST.out).hi.z 2
      have k7 := (ST.out).hi.z 3
      obtain ⟨sa, sb, se, sf⟩ := s
      simp only at u0 u1 u2 u3 v0 v1 v2 v3
      clear hkl CR
      go_upto_region 12 with fail
      go_region
      have L0 := set8_lo (ST.out).lo ⟨sa, sb, se, sf⟩
      have L1 := set8_hi (ST.out).hi ⟨sa, sb, se, sf⟩
      have L2 := hide (set8_bel (ST.out).bel ⟨sa, sb, se, sf⟩)
      unfold set8 at L0 L1 L2
      simp only at L0 L1 L2
      generalize World.drew _ = wf at *
      have u0 := L0.c0
      have u1 := L0.c1
      have u2 := L0.c2
      have u3 := L0.c3
      have v0 := L1.c0
      have v1 := L1.c1
      have v2 := L1.c2
      have v3 := L1.c3
      simp only at u0 u1 u2 u3 v0 v1 v2 v3
      go_wp2_with fail
      exact bodyPost_ret (v := .tuple #[.agg #[.int .i64 sa, .int .i64 sb, .int .i64 0, .int .i64 0], .agg #[.int .i64 se, .int .i64 sf, .int .i64 0, .int .i64 0]]) (by simp [results, Try.results10, go_sem, u0, u1, u2, u3, v0, v1, v2, v3]) rfl ⟨by rw [← HSS.out], L2.out⟩

end Go.Proofs.Ytpfdpkfbdenapaa
