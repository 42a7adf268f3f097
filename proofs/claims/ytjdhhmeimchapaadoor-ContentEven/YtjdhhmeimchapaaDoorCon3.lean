/- Content: how many tracks are there; what is added, as a closure. -/
import Derived.Test.YtjdhhmeimchapaaDoorCon0
import Derived.Test.YtjdhhmeimchapaaDoorG2
namespace Go.Proofs.YtjdhhmeimchapaaDoor
open Go.RowKit

theorem BlL.arB {w : World} {v : Value} {l : List Bool} (h : BlL w v l) : ∃ ao cap, v = .slice ao l.length cap ∧ ArB w ao l.length (fun k => l.getD k false) := by
  rcases h with ⟨rfl, ao, cap, rfl⟩ | ⟨b, off, cap, rfl, hlt, hc⟩
  · exact ⟨ao, cap, rfl, .inl rfl⟩
  · exact ⟨_, cap, rfl, .inr ⟨b, off, rfl, hlt, hc⟩⟩

set_option maxRecDepth 100000 in
set_option maxHeartbeats 4000000 in
theorem there28_any (vl vg va : Value) (t : TsD) (w : World) (hi : TsI w vl vg va t) (hN : t.gone.length ≤ 1000000) : Calls Tryd.prog 16 #[.agg #[.int .i64 t.low, vl, vg, va]] w fun e w' => e = .returned (.int .i64 (thN (fun k => t.gone.getD k false) t.gone.length : Nat)) ∧ Below w.heap.size w w' := by
  have ST0 := hide (TsS.start hi)
  obtain ⟨go, gcap, hvg, hgg⟩ := hi.g.arB
  subst hvg
  obtain ⟨g, hg⟩ : ∃ g : Nat → Bool, g = fun k => t.gone.getD k false := ⟨_, rfl⟩
  rw [← hg] at hgg
  rw [← hg]
  have HGF := hide (fun W (h : TsS w W w.heap.size vl (.slice go t.gone.length gcap) va t) => hgg.below h.bel)
  obtain ⟨N, hNN⟩ : ∃ N, N = t.gone.length := ⟨_, rfl⟩
  rw [← hNN] at ST0 HGF hN ⊢
  have HLE := hide (fun k => thN_le g k)
  have HSU : Hid (∀ k, thN g (k + 1) = thN g k + if g k then 0 else 1) := hide (fun k => rfl)
  unfold tsC at ST0
  clear hi hgg hNN hg
  go_enter Tryd.func16, Tryd.ntmps16
  go_upto_region 1 with fail
  generalize w.alloc (.cells #[.int .i64 t.low, vl, .slice go N gcap, va] 26) = w1 at *
  obtain ⟨c0, c1, c2, c3⟩ := (ST0.out).tc
  have HG := hide ((HGF.out) _ ST0.out)
  go_wp2_with fail
  go_loop [3, 9] (fun s i => ∃ k : Nat, k ≤ N ∧ i = .int .i64 (k : Int) ∧ s = .int .i64 ((thN g k : Nat) : Int)) (fun _ i => N - (intOf i).toNat)
  case atStart => exact ⟨0, Nat.zero_le _, by go_num, by simp [thN]⟩
  case round =>
    obtain ⟨k, hk, rfl, rfl⟩ := hrel
    have hle := (HLE.out) k
    by_cases hkl : k < N
    · have hi : (k : Int) < (N : Int) := by omega
      have hn2 : ¬ (k : Int) < 0 := by omega
      obtain ⟨b, off, rfl, hc⟩ := (HG.out).at hkl
      have hsu := (HSU.out) k
      try simp only at hc
      generalize thN g k = C at *
      generalize g k = y at *
      cases y
      · have HV : Hid (thN g (k + 1) = C + 1) := hide (by rw [hsu]; rfl)
        clear HLE HSU hsu
        go_wp2_with fail
        go_round
        case rel => exact ⟨k + 1, by omega, by go_num, by rw [HV.out]; go_num⟩
        case measure => simp [intOf]; omega
      · have HV : Hid (thN g (k + 1) = C) := hide (by rw [hsu]; rfl)
        clear HLE HSU hsu
        go_wp2_with fail
        go_round
        case rel => exact ⟨k + 1, by omega, by go_num, by rw [HV.out]⟩
        case measure => simp [intOf]; omega
    · have hi : ¬ (k : Int) < (N : Int) := by omega
      obtain rfl : k = N := by omega
      clear HLE HSU
      generalize hC : thN g k = C at *
      have HC := hide hC
      clear hC
      go_wp2_with fail
      go_ret
      exact ⟨by rw [HC.out] <;> rfl, (ST0.out).bel⟩

theorem eqk27 (x a : Int) : (x = a ∧ (x == a) = true) ∨ (¬ x = a ∧ (x == a) = false) := by
  by_cases h : x = a
  · exact .inl ⟨h, by simp [h]⟩
  · exact .inr ⟨h, by simp [h]⟩

def partsV (al k n : Int) : Int × Int :=
  if al = 4 then (1, 1) else if al = 5 then (1, 2) else if al = 7 then (k, n - 1) else if al = 8 then (2 * k + 1, 2 * n) else if al = 9 then (k + 1, n + 1) else (0, 1)

theorem gdiv_ediv {a b : Int} (hb : 0 < b) (h0 : -4611686018427387904 ≤ a) (h1 : a ≤ 4611686018427387904) : gdiv a b = a / b := by
  rw [gdiv_fdiv a b (by omega), Int.fdiv_eq_ediv_of_nonneg a (by omega)]
  have h2 : -4611686018427387904 ≤ a / b := Int.le_ediv_of_mul_le hb (by
    have : -4611686018427387904 * b ≤ -4611686018427387904 * 1 := Int.mul_le_mul_of_nonpos_left (by decide) (by omega)
    omega)
  have h3 : a / b ≤ 4611686018427387904 := Int.ediv_le_of_le_mul hb (by
    have : 4611686018427387904 * 1 ≤ 4611686018427387904 * b := Int.mul_le_mul_of_nonneg_left (by omega) (by decide)
    omega)
  rw [wrap64_id] <;> omega

theorem gdiv_nought (a : Int) : gdiv a 0 = 0 := by unfold gdiv; rw [if_pos rfl]

theorem parts_facts {al free k n : Int} (ha : 2 ≤ al) (ha9 : al ≤ 9) (hs : al < 7 ∨ (0 < free ∧ n ≠ 0)) (hk0 : 0 ≤ k) (hk : k < n ∨ n = 0) (hk1 : k ≤ 40000) (hn0 : 0 ≤ n) (hn : n ≤ 40000) (hf0 : -68719476736 ≤ free) (hf1 : free ≤ 68719476736) :
    (-9000000000000000 ≤ free * (partsV al k n).1 ∧ free * (partsV al k n).1 ≤ 9000000000000000) ∧ gdiv (free * (partsV al k n).1) (partsV al k n).2 = adV al free k n := by
  unfold partsV adV
  by_cases h4 : al = 4
  · rw [if_pos h4, if_pos h4]
    simp only [Int.mul_one]
    exact ⟨by omega, by rw [gdiv_ediv (by decide) (by omega) (by omega), Int.ediv_one]⟩
  · rw [if_neg h4, if_neg h4]
    by_cases h5 : al = 5
    · rw [if_pos h5, if_pos h5]
      simp only [Int.mul_one]
      exact ⟨by omega, gdiv_ediv (by decide) (by omega) (by omega)⟩
    · rw [if_neg h5, if_neg h5]
      by_cases h7 : al < 7
      · rw [if_pos h7, if_neg (by omega), if_neg (by omega), if_neg (by omega)]
        simp only [Int.mul_zero]
        exact ⟨by omega, by rw [gdiv_ediv (by decide) (by decide) (by decide)]; rfl⟩
      · obtain ⟨hf, hn1⟩ : 0 < free ∧ n ≠ 0 := by omega
        have up : ∀ p : Int, 0 ≤ p → p ≤ 80001 → 0 ≤ free * p ∧ free * p ≤ 5497627498611736 := fun p h1 h2 => by
          have := Int.mul_nonneg (show 0 ≤ free by omega) h1
          have := Int.mul_le_mul_of_nonneg_left h2 (show 0 ≤ free by omega)
          omega
        rw [if_neg h7, if_neg (show ¬ (free ≤ 0 ∨ n = 0) by omega)]
        by_cases e7 : al = 7
        · rw [if_pos e7, if_pos e7]
          have hu := up k hk0 (by omega)
          refine ⟨by simp only; omega, ?_⟩
          simp only
          by_cases e1 : n = 1
          · rw [e1, show (1 : Int) - 1 = 0 by decide, gdiv_nought, Int.ediv_zero]
          · exact gdiv_ediv (by omega) (by omega) (by omega)
        · rw [if_neg e7, if_neg e7]
          by_cases e8 : al = 8
          · rw [if_pos e8, if_pos e8]
            have hu := up (2 * k + 1) (by omega) (by omega)
            exact ⟨by simp only; omega, gdiv_ediv (by simp only; omega) (by simp only; omega) (by simp only; omega)⟩
          · rw [if_neg e8, if_neg e8, if_pos (by omega)]
            have hu := up (k + 1) (by omega) (by omega)
            exact ⟨by simp only; omega, gdiv_ediv (by simp only; omega) (by simp only; omega) (by simp only; omega)⟩

theorem cells_two28 (w : World) (a b : Int) : (w.alloc (.cells #[.int .i64 a, .int .i64 b] 46)).cell? ⟨w.heap.size, 0, none⟩ = some (.int .i64 a) ∧ (w.alloc (.cells #[.int .i64 a, .int .i64 b] 46)).cell? ⟨w.heap.size, 1, none⟩ = some (.int .i64 b) ∧ (∀ m, (w.alloc (.cells #[.int .i64 a, .int .i64 b] 46)).frozen? ⟨w.heap.size, m, none⟩ = false) := by
  have hn := heap_alloc_new w (.cells #[.int .i64 a, .int .i64 b] 46)
  refine ⟨?_, ?_, fun m => Lib.frozen_of_heap hn m⟩ <;> rw [Lib.cell_of_heap hn] <;> rfl

set_option maxRecDepth 100000 in
set_option maxHeartbeats 4000000 in
theorem parts28_any (al k n : Int) (w : World) (h0 : 0 ≤ k) (h1 : k ≤ 1000000) (h2 : 0 ≤ n) (h3 : n ≤ 1000000) : Calls Tryd.prog 18 #[.int .i64 al, .int .i64 k, .int .i64 n] w fun e w' => e = .returned (.agg #[.int .i64 (partsV al k n).1, .int .i64 (partsV al k n).2]) ∧ Below w.heap.size w w' := by
  obtain ⟨z0, z1, zz⟩ := cells_two28 w 0 0
  have HB := hide ((Below.refl _ w).alloc (Nat.le_refl _) (.cells #[.int .i64 0, .int .i64 0] 46))
  have HR : Hid (partsV al k n = if al = 4 then (1, 1) else if al = 5 then (1, 2) else if al = 7 then (k, n - 1) else if al = 8 then (2 * k + 1, 2 * n) else if al = 9 then (k + 1, n + 1) else (0, 1)) := hide rfl
  generalize partsV al k n = R at *
  go_enter Tryd.func18, Tryd.ntmps18
  go_upto_region 1 with fail
  generalize w.alloc (.cells #[.int .i64 0, .int .i64 0] 46) = w1 at *
  rcases eqk27 al 4 with ⟨e4, b4⟩ | ⟨e4, b4⟩
  · have hr := HR.out
    rw [if_pos e4] at hr
    subst hr
    go_wp2_with fail
    exact bodyPost_ret (v := .agg #[.int .i64 1, .int .i64 1]) (by simp [results, Tryd.results18, go_sem, z0, z1]) rfl ⟨rfl, below_two HB.out (Nat.le_refl _) _ _⟩
  · rcases eqk27 al 5 with ⟨e5, b5⟩ | ⟨e5, b5⟩
    · have hr := HR.out
      rw [if_neg e4, if_pos e5] at hr
      subst hr
      go_wp2_with fail
      exact bodyPost_ret (v := .agg #[.int .i64 1, .int .i64 2]) (by simp [results, Tryd.results18, go_sem, z0, z1]) rfl ⟨rfl, below_two HB.out (Nat.le_refl _) _ _⟩
    · rcases eqk27 al 7 with ⟨e7, b7⟩ | ⟨e7, b7⟩
      · have hr := HR.out
        rw [if_neg e4, if_neg e5, if_pos e7] at hr
        subst hr
        go_wp2_with fail
        exact bodyPost_ret (v := .agg #[.int .i64 k, .int .i64 (n - 1)]) (by simp [results, Tryd.results18, go_sem, z0, z1]) rfl ⟨rfl, below_two HB.out (Nat.le_refl _) _ _⟩
      · rcases eqk27 al 8 with ⟨e8, b8⟩ | ⟨e8, b8⟩
        · have hr := HR.out
          rw [if_neg e4, if_neg e5, if_neg e7, if_pos e8] at hr
          subst hr
          go_wp2_with fail
          exact bodyPost_ret (v := .agg #[.int .i64 (2 * k + 1), .int .i64 (2 * n)]) (by simp [results, Tryd.results18, go_sem, z0, z1]) rfl ⟨rfl, below_two HB.out (Nat.le_refl _) _ _⟩
        · rcases eqk27 al 9 with ⟨e9, b9⟩ | ⟨e9, b9⟩
          · have hr := HR.out
            rw [if_neg e4, if_neg e5, if_neg e7, if_neg e8, if_pos e9] at hr
            subst hr
            go_wp2_with fail
            exact bodyPost_ret (v := .agg #[.int .i64 (k + 1), .int .i64 (n + 1)]) (by simp [results, Tryd.results18, go_sem, z0, z1]) rfl ⟨rfl, below_two HB.out (Nat.le_refl _) _ _⟩
          · have hr := HR.out
            rw [if_neg e4, if_neg e5, if_neg e7, if_neg e8, if_neg e9] at hr
            subst hr
            go_wp2_with fail
            exact bodyPost_ret (v := .agg #[.int .i64 0, .int .i64 1]) (by simp [results, Tryd.results18, go_sem, z0, z1]) rfl ⟨rfl, below_two HB.out (Nat.le_refl _) _ _⟩

/-- What the closure has caught: how it is aligned, what is free, how many tracks are there. -/
structure CapS (W : World) (B0 B1 B2 : Nat) (al free n : Int) : Prop where
  b0 : W.heap[B0]? = some (.cells #[.int .i64 al] 3 (0, 0))
  b1 : W.heap[B1]? = some (.cells #[.int .i64 free] 3 (0, 0))
  b2 : W.heap[B2]? = some (.cells #[.int .i64 n] 3 (0, 0))

theorem CapS.lt {W : World} {B0 B1 B2 : Nat} {al free n : Int} (h : CapS W B0 B1 B2 al free n) : B0 < W.heap.size ∧ B1 < W.heap.size ∧ B2 < W.heap.size :=
  ⟨(Array.getElem?_eq_some_iff.1 h.b0).1, (Array.getElem?_eq_some_iff.1 h.b1).1, (Array.getElem?_eq_some_iff.1 h.b2).1⟩

theorem CapS.next {W W' : World} {B0 B1 B2 : Nat} {al free n : Int} (h : CapS W B0 B1 B2 al free n) (hb : Below W.heap.size W W') : CapS W' B0 B1 B2 al free n :=
  ⟨(hb.block _ h.lt.1).trans h.b0, (hb.block _ h.lt.2.1).trans h.b1, (hb.block _ h.lt.2.2).trans h.b2⟩

theorem CapS.cells {W : World} {B0 B1 B2 : Nat} {al free n : Int} (h : CapS W B0 B1 B2 al free n) : W.cell? ⟨B0, 0, none⟩ = some (.int .i64 al) ∧ W.cell? ⟨B1, 0, none⟩ = some (.int .i64 free) ∧ W.cell? ⟨B2, 0, none⟩ = some (.int .i64 n) := by
  refine ⟨?_, ?_, ?_⟩
  · rw [Lib.cell_of_heap h.b0]; rfl
  · rw [Lib.cell_of_heap h.b1]; rfl
  · rw [Lib.cell_of_heap h.b2]; rfl

set_option maxRecDepth 100000 in
set_option maxHeartbeats 8000000 in
theorem added28_any (al free k n : Int) (B0 B1 B2 : Nat) (W : World) (h : CapS W B0 B1 B2 al free n) (ha : 2 ≤ al) (ha9 : al ≤ 9) (hk0 : 0 ≤ k) (hk : k < n ∨ n = 0) (hk1 : k ≤ 40000) (hn0 : 0 ≤ n) (hn : n ≤ 40000) (hf0 : -68719476736 ≤ free) (hf1 : free ≤ 68719476736) :
    Calls Tryd.prog 17 #[.int .i64 k, .pointer (some ⟨B0, 0, none⟩), .pointer (some ⟨B1, 0, none⟩), .pointer (some ⟨B2, 0, none⟩)] W fun e w' => e = .returned (.int .i64 (adV al free k n)) ∧ Below W.heap.size W w' := by
  have HC := hide h
  have CP := hide (fun X => parts28_any al k n X hk0 (by omega) hn0 (by omega))
  have HF := hide (fun hs => parts_facts (free := free) ha ha9 hs hk0 hk hk1 hn0 hn hf0 hf1)
  have HZ := hide (fun h7 hf => adV_zero (al := al) (free := free) h7 hf k n)
  have HZ2 : Hid (7 ≤ al → n = 0 → adV al free k n = 0) := hide (fun h7 hn => by
    unfold adV
    rw [if_neg (by omega), if_neg (by omega), if_neg (by omega), if_pos (Or.inr hn)])
  generalize adV al free k n = R at *
  generalize partsV al k n = P at *
  obtain ⟨p, q⟩ := P
  simp only at HF CP
  obtain ⟨c0, c1, c2⟩ := h.cells
  clear h hk
  have CD := hide (fun X => div_any (free * p) q X)
  by_cases h7 : 7 ≤ al
  · have i7 : decide (7 ≤ al) = true := decide_eq_true h7
    by_cases hf : free ≤ 0
    · have iff' : decide (free ≤ 0) = true := decide_eq_true hf
      have HV := hide ((HZ.out) h7 hf)
      clear HF HZ HZ2 CP CD
      go_enter Tryd.func17, Tryd.ntmps17
      go_wp2_with fail
      go_ret
      exact ⟨by rw [HV.out] <;> rfl, Below.refl _ _⟩
    · rcases eqk27 n 0 with ⟨e, b⟩ | ⟨e, b⟩
      · have HV := hide ((HZ2.out) h7 e)
        clear HF HZ HZ2 CP CD
        go_enter Tryd.func17, Tryd.ntmps17
        go_wp2_with fail
        go_ret
        exact ⟨by rw [HV.out] <;> rfl, Below.refl _ _⟩
      · obtain ⟨⟨f0, f1⟩, f2⟩ := (HF.out) (Or.inr ⟨by omega, e⟩)
        have HV := hide f2
        clear HF HZ HZ2 f2
        go_enter Tryd.func17, Tryd.ntmps17
        go_wp2_with fail
        refine Calls.mono ((CP.out) _) ?_
        rintro e1 w2 ⟨rfl, hb⟩
        obtain ⟨d0, d1, d2⟩ := (((HC.out).next hb).next ((Below.refl _ w2).alloc (Nat.le_refl _) (.cells #[.int .i64 p, .int .i64 q] 46))).cells
        obtain ⟨z0, z1, zz⟩ := cells_two28 w2 p q
        have HB := hide (hb.trans ((Below.refl _ w2).alloc (hb.size) (.cells #[.int .i64 p, .int .i64 q] 46)))
        clear hb c0 c1 c2 HC CP
        go_upto_region 5 with fail
        generalize w2.alloc (.cells #[.int .i64 p, .int .i64 q] 46) = w3 at *
        go_wp2_with fail
        refine Calls.mono ((CD.out) _) ?_
        rintro e1 w4 ⟨rfl, rfl⟩
        go_wp2_with fail
        go_ret
        exact ⟨by rw [← HV.out] <;> rfl, HB.out⟩
  · have i7 : decide (7 ≤ al) = false := decide_eq_false h7
    obtain ⟨⟨f0, f1⟩, f2⟩ := (HF.out) (Or.inl (by omega))
    have HV := hide f2
    clear HF HZ HZ2 f2
    go_enter Tryd.func17, Tryd.ntmps17
    go_wp2_with fail
    refine Calls.mono ((CP.out) _) ?_
    rintro e1 w2 ⟨rfl, hb⟩
    obtain ⟨d0, d1, d2⟩ := (((HC.out).next hb).next ((Below.refl _ w2).alloc (Nat.le_refl _) (.cells #[.int .i64 p, .int .i64 q] 46))).cells
    obtain ⟨z0, z1, zz⟩ := cells_two28 w2 p q
    have HB := hide (hb.trans ((Below.refl _ w2).alloc (hb.size) (.cells #[.int .i64 p, .int .i64 q] 46)))
    clear hb c0 c1 c2 HC CP
    go_upto_region 5 with fail
    generalize w2.alloc (.cells #[.int .i64 p, .int .i64 q] 46) = w3 at *
    go_wp2_with fail
    refine Calls.mono ((CD.out) _) ?_
    rintro e1 w4 ⟨rfl, rfl⟩
    go_wp2_with fail
    go_ret
    exact ⟨by rw [← HV.out] <;> rfl, HB.out⟩

end Go.Proofs.YtjdhhmeimchapaaDoor
