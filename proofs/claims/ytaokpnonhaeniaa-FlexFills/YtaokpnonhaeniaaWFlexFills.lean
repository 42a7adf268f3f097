/- FlexFills: the statement's own walk. -/
import Derived.Test.YtaokpnonhaeniaaG7
import Derived.Test.YtaokpnonhaeniaaWnt1
import Derived.BigQuiet
import Derived.Lib.MinMax
namespace Go.Proofs.Ytaokpnonhaeniaa
open Go.RowKit

theorem fill_true {l out : List SzD} {M : Nat} {f : Nat → Int} {size : Int} (hg : good24 l M f [] 0 = true) (hN : l.length ≤ 60) (h0 : 0 ≤ size) (h1 : size ≤ 68719476736) (hb : ∀ k, k < l.length → (l.getD k noSz).base ≤ 68719476736) (hq : FillQ l M f size out) :
    M = l.length ∧ (∃ X, out = (List.range l.length).map (outV l X) ∧ FillF l f size X) ∧ ∀ k, k < l.length → (0 ≤ (l.getD k noSz).base ∧ 0 ≤ (l.getD k noSz).fr ∧ (l.getD k noSz).fr ≤ 1073741824) ∧ 0 ≤ f k ∧ f k ≤ 68719476736 := by
  have ht : ∀ k, k < l.length → goodS (l.getD k noSz) = true ∧ isSz (f k) = true := fun k hk => by
    cases h2 : (goodS (l.getD k noSz) && isSz (f k))
    · unfold good24 at hg
      rw [tg24_not hk h2] at hg
      simp at hg
    · rw [Bool.and_eq_true] at h2
      exact h2
  have h26 : good26 l M f [] size = true := by
    unfold good26
    rw [hg, isSz_iff, decide_eq_true h0, decide_eq_true h1]
    simp only [Bool.true_and]
    rw [List.all_eq_true]
    intro s hs
    obtain ⟨k, hk, rfl⟩ := List.mem_iff_getElem.1 hs
    have e : l[k] = l.getD k noSz := by rw [List.getD_eq_getElem?_getD, List.getElem?_eq_getElem hk]; rfl
    rw [e, isSz_iff, decide_eq_true (good_base (ht k hk).1).1, decide_eq_true (hb k hk)]
    rfl
  obtain ⟨hM, -, -, -⟩ := good26_parts h26
  have hall : ∀ k, k < l.length → (0 ≤ (l.getD k noSz).base ∧ 0 ≤ (l.getD k noSz).fr ∧ (l.getD k noSz).fr ≤ 1073741824) ∧ 0 ≤ f k ∧ f k ≤ 68719476736 := fun k hk => by
    have g1 := good_base (ht k hk).1
    have g2 := good_fr (ht k hk).1
    exact ⟨⟨g1.1, g2.1, g2.2⟩, isSz_bd (ht k hk).2⟩
  refine ⟨hM, ?_, hall⟩
  rcases hq with ⟨h, -⟩ | ⟨-, ds, hp, hm, rfl⟩
  · rw [h26] at h
    exact absurd h (by decide)
  · subst hM
    exact ⟨_, rfl, fill_facts hN (fun k hk => ⟨(hall k hk).1.1, hb k hk, (hall k hk).1.2⟩) (fun k hk => (hall k hk).2) h0 h1 hp hm⟩

theorem belowQ (W : World) (n : Nat) : Below W.heap.size W (World.drewN W n) := ⟨rfl, rfl, rfl, Nat.le_refl _, fun _ _ => rfl⟩

theorem SzL.at0 {w : World} {b off N cap : Nat} {l : List SzD} (h : SzL w (.slice (some ⟨b, off, none⟩) N cap) l) {k : Nat} (hk : k < l.length) :
    w.cell? ⟨b, off + k * 7, none⟩ = some (.int .i64 (l.getD k noSz).mn) ∧ w.cell? ⟨b, off + k * 7 + 1, none⟩ = some (.int .i64 (l.getD k noSz).mx) ∧ w.cell? ⟨b, off + k * 7 + 2, none⟩ = some (.int .i64 (l.getD k noSz).fr) ∧ w.cell? ⟨b, off + k * 7 + 3, none⟩ = some (.bool (l.getD k noSz).fit) ∧ w.cell? ⟨b, off + k * 7 + 4, none⟩ = some (.int .i64 (l.getD k noSz).cap) ∧ w.cell? ⟨b, off + k * 7 + 5, none⟩ = some (.int .i64 (l.getD k noSz).base) ∧ w.cell? ⟨b, off + k * 7 + 6, none⟩ = some (.int .i64 (l.getD k noSz).limit) := by
  obtain ⟨b', off', e, -, h0⟩ := h.at hk
  obtain ⟨rfl, rfl⟩ : b = b' ∧ off = off' := by simpa using e
  exact h0

theorem ArI.cell26 {w : World} {b off N : Nat} {f : Nat → Int} (h : ArI w (some ⟨b, off, none⟩) N f) {k : Nat} (hk : k < N) : w.cell? ⟨b, off + k, none⟩ = some (.int .i64 (f k)) := by
  obtain ⟨b', off', h', hc⟩ := h.at hk
  obtain ⟨rfl, rfl⟩ : b = b' ∧ off = off' := by simpa using h'
  exact hc

theorem getD_map_range26 (g : Nat → SzD) (N k : Nat) (hk : k < N) : ((List.range N).map g).getD k noSz = g k := by
  simp [List.getD_eq_getElem?_getD, hk]

set_option maxRecDepth 100000 in
set_option maxHeartbeats 8000000 in
theorem flexFills_walk (v : Value) (l : List SzD) (va : Value) (zs : List Int) (size : Int) (w : World) (h : SzL w v l) (hz : Reads w va zs) : Calls Try.prog 4 #[v, va, .int .i64 size] w fun e w' => e = .returned (.bool true) ∧ Below w.heap.size w w' := by
  obtain ⟨aa, ca, rfl, ha⟩ := hz.arI
  obtain ⟨M, hM0⟩ : ∃ M, M = zs.length := ⟨_, rfl⟩
  obtain ⟨f, hf0⟩ : ∃ f : Nat → Int, f = fun k => zs.getD k 0 := ⟨_, rfl⟩
  rw [← hM0, ← hf0] at ha
  rw [← hM0]
  clear hM0 hf0 hz
  have HS := hide h
  have HA := hide ha
  have CG := hide (fun (hN : l.length ≤ 60) => rgood24_any v l aa M ca f (.slice none 0 0) [] 0 w h ha (.inl ⟨rfl, none, 0, rfl⟩) (by omega) (by simp))
  have CL := hide (fun W (hb : Below w.heap.size w W) => (lives26_any W).mono fun _ _ hh => And.intro hh.1 (hb.trans (hh.2.mono hb.size)))
  have CF := hide (fun W (hb : Below w.heap.size w W) (hN : l.length ≤ 60) => fill26_any v l aa M ca f size W (h.below hb) (ha.below hb) (by omega))
  have HFT := hide (fun out hg hN h0 h1 hb hq => fill_true (l := l) (out := out) (M := M) (f := f) (size := size) hg hN h0 h1 hb hq)
  obtain ⟨ao, cap, rfl⟩ := h.slice
  generalize good24 l M f [] 0 = GD at *
  obtain ⟨N, hN0⟩ : ∃ N, N = l.length := ⟨_, rfl⟩
  have HNL := hide hN0
  rw [← hN0] at HS CG CF HFT
  rw [← hN0]
  clear h ha hN0
  go_enter Try.func4, Try.ntmps4
  by_cases h1 : (60 : Int) < (N : Int)
  · go_wp2_with fail
    refine Calls.mono ((CL.out) w (Below.refl _ _)) ?_
    rintro e w9 ⟨rfl, hb9⟩
    have B9 := hide hb9
    clear hb9
    go_wp2_with fail
    go_ret
    exact ⟨rfl, B9.out⟩
  · cases GD
    · go_wp2_with fail
      refine Calls.mono ((CG.out) (by omega)) ?_
      rintro e w1 ⟨rfl, hb1⟩
      have B1 := hide hb1
      clear hb1 CG
      go_wp2_with fail
      refine Calls.mono ((CL.out) w1 (B1.out)) ?_
      rintro e w9 ⟨rfl, hb9⟩
      have B9 := hide hb9
      clear hb9
      go_wp2_with fail
      go_ret
      exact ⟨rfl, B9.out⟩
    · by_cases h2 : size < 0
      · go_wp2_with fail
        refine Calls.mono ((CG.out) (by omega)) ?_
        rintro e w1 ⟨rfl, hb1⟩
        have B1 := hide hb1
        clear hb1 CG
        go_wp2_with fail
        refine Calls.mono ((CL.out) w1 (B1.out)) ?_
        rintro e w9 ⟨rfl, hb9⟩
        have B9 := hide hb9
        clear hb9
        go_wp2_with fail
        go_ret
        exact ⟨rfl, B9.out⟩
      · by_cases h3 : (68719476736 : Int) < size
        · go_wp2_with fail
          refine Calls.mono ((CG.out) (by omega)) ?_
          rintro e w1 ⟨rfl, hb1⟩
          have B1 := hide hb1
          clear hb1 CG
          go_wp2_with fail
          refine Calls.mono ((CL.out) w1 (B1.out)) ?_
          rintro e w9 ⟨rfl, hb9⟩
          have B9 := hide hb9
          clear hb9
          go_wp2_with fail
          go_ret
          exact ⟨rfl, B9.out⟩
        · go_wp2_with fail
          refine Calls.mono ((CG.out) (by omega)) ?_
          rintro e w1 ⟨rfl, hb1⟩
          have B1 := hide hb1
          clear hb1 CG
          go_wp2_with fail
          go_loopw [37] (fun i wr => ∃ k : Nat, k ≤ N ∧ i = .int .i64 (k : Int) ∧ Hid (∀ j, j < k → (l.getD j noSz).base ≤ 68719476736) ∧ Hid (Below w.heap.size w wr)) (fun i _ => N - (intOf i).toNat)
          case atStart => exact ⟨0, Nat.zero_le _, by go_num, hide (fun j hj => absurd hj (Nat.not_lt_zero _)), B1⟩
          case round =>
            clear B1
            obtain ⟨k, hk, rfl, HP, HB⟩ := hrel
            by_cases hkl : k < N
            · have hi : (k : Int) < (N : Int) := by omega
              have hn2 : ¬ (k : Int) < 0 := by omega
              have hkL : k < l.length := by rw [← HNL.out]; exact hkl
              obtain ⟨bs, os, hao, -, s0, s1, s2, s3, s4, s5, s6⟩ := ((HS.out).below (HB.out)).at hkL
              have HP2 : Hid ((l.getD k noSz).base ≤ 68719476736 → ∀ j, j < k + 1 → (l.getD j noSz).base ≤ 68719476736) := hide (fun hh j hj => by
                rcases Nat.lt_or_ge j k with h1 | h1
                · exact (HP.out) j h1
                · obtain rfl : j = k := by omega
                  exact hh)
              subst hao
              clear HP hkL
              generalize l.getD k noSz = s at *
              obtain ⟨a1, a2, a3, a4, a5, a6, a7⟩ := s
              simp only at s0 s1 s2 s3 s4 s5 s6 HP2
              have hL : SzR (wr.alloc (.cells #[.int .i64 a1, .int .i64 a2, .int .i64 a3, .bool a4, .int .i64 a5, .int .i64 a6, .int .i64 a7] 32)) wr.heap.size ⟨a1, a2, a3, a4, a5, a6, a7⟩ := SzR.new wr ⟨a1, a2, a3, a4, a5, a6, a7⟩
              have HB2 := hide ((HB.out).alloc (HB.out).size (.cells #[.int .i64 a1, .int .i64 a2, .int .i64 a3, .bool a4, .int .i64 a5, .int .i64 a6, .int .i64 a7] 32))
              clear HB
              go_upto_region 6 with fail
              generalize wr.alloc (.cells #[.int .i64 a1, .int .i64 a2, .int .i64 a3, .bool a4, .int .i64 a5, .int .i64 a6, .int .i64 a7] 32) = w2 at *
              generalize wr.heap.size = V at *
              obtain ⟨t0, t1, t2, t3, t4, t5, t6⟩ := hL.cells
              by_cases hbig : 68719476736 < a6
              · go_wp2_with fail
                refine Calls.mono ((CL.out) w2 (HB2.out)) ?_
                rintro e w9 ⟨rfl, hb9⟩
                have B9 := hide hb9
                clear hb9
                go_wp2_with fail
                go_ret
                exact ⟨rfl, B9.out⟩
              · have HP3 := hide ((HP2.out) (by omega))
                clear HP2
                go_wp2_with fail
                go_roundw
                case rel => exact ⟨k + 1, by omega, by go_num, HP3, HB2⟩
                case measure => simp [intOf]; omega
            · have hi : ¬ (k : Int) < (N : Int) := by omega
              have hall : ∀ j, j < l.length → (l.getD j noSz).base ≤ 68719476736 := fun j hj => (HP.out) j (by have := HNL.out; omega)
              have CF2 := hide ((CF.out) wr (HB.out) (by omega))
              have HALL := hide hall
              clear HP CF hall
              go_wp2_with fail
              refine Calls.mono CF2.out ?_
              rintro e w2 ⟨u, out, rfl, hu, hb2, hq⟩
              obtain ⟨hMN, ⟨X, hout, hX⟩, hbd⟩ := (HFT.out) out (by trivial) (by omega) (by omega) (by omega) (by rw [HNL.out]; exact HALL.out) hq
              have hlen : out.length = N := by rw [hout, List.length_map, List.length_range]
              obtain ⟨uo, uc, hvu⟩ := hu.slice
              rw [hlen] at hvu
              subst hvu
              have HU := hide hu
              have HOV : Hid (∀ k, k < N → out.getD k noSz = outV l X k) := hide (fun k hk => by rw [hout]; exact getD_map_range26 _ _ _ hk)
              have HLEN := hide hlen
              have HSAME : Hid (∀ k, k < N → (outV l X k).mx = (l.getD k noSz).mx ∧ (outV l X k).fr = (l.getD k noSz).fr ∧ (l.getD k noSz).base ≤ (outV l X k).base ∧ (outV l X k).base ≤ 68719476737 ∧ (¬ (l.getD k noSz).mx = 5 → (outV l X k).base = (l.getD k noSz).base)) := hide (fun k hk => hX.same k (by rw [← HNL.out]; exact hk))
              have HALIKE : Hid (∀ i k, i < N → k < N → (l.getD i noSz).base < (outV l X i).base → (l.getD k noSz).base < (outV l X k).base → (l.getD k noSz).fr = (l.getD i noSz).fr → (outV l X k).base ≤ (outV l X i).base + 1) := hide (fun i k hi hk => hX.alike i k (by rw [← HNL.out]; exact hi) (by rw [← HNL.out]; exact hk))
              have hfall := hX.all
              have hffull := hX.full
              have HBD : Hid (∀ k, k < N → (0 ≤ (l.getD k noSz).base ∧ (l.getD k noSz).base ≤ 68719476736 ∧ 0 ≤ (l.getD k noSz).fr ∧ (l.getD k noSz).fr ≤ 1073741824) ∧ 0 ≤ f k ∧ f k ≤ 68719476736) := hide (fun k hk => by
                have h1 := hbd k hk
                exact ⟨⟨h1.1.1, (HALL.out) k (by rw [← HNL.out]; exact hk), h1.1.2⟩, h1.2⟩)
              rw [← HNL.out] at hfall hffull
              have HFALL := hide hfall
              have HFFULL := hide hffull
              have hMN2 : M = N := hMN
              subst hMN2
              have B2 : Hid (Below w.heap.size w w2) := hide ((HB.out).trans (hb2.mono (HB.out).size))
              have HIN := hide (fun W (hb : Below w2.heap.size w2 W) => And.intro ((HU.out).below hb) (And.intro ((HS.out).below ((B2.out).trans (hb.mono (B2.out).size))) ((HA.out).below ((B2.out).trans (hb.mono (B2.out).size)))))
              have CL2 := hide (fun W (hb : Below w2.heap.size w2 W) => (CL.out) W ((B2.out).trans (hb.mono (B2.out).size)))
              clear hlen hu hb2 hq hout hX hfall hffull hbd hMN HFT HU HALL CF2 HB CL HS HA
              have hnn : ((M : Int) != (M : Int)) = false := by simp
              go_wp2_with fail
              go_loopw [10, 11, 12, 57] (fun sw sn sp i wr => ∃ (k : Nat) (A B C : Int), k ≤ M ∧ i = .int .i64 (k : Int) ∧ sw = .int .i64 A ∧ sn = .int .i64 B ∧ sp = .int .i64 C ∧ Hid (A = sA (fun k => (l.getD k noSz).base + f k) k ∧ B = sA (fun k => (outV l X k).base + f k) k ∧ C = sA (fun k => if (l.getD k noSz).base < (outV l X k).base then (l.getD k noSz).fr else 0) k) ∧ Hid (0 ≤ A ∧ A ≤ 137438953472 * (k : Int) ∧ 0 ≤ B ∧ B ≤ 137438953474 * (k : Int) ∧ 0 ≤ C ∧ C ≤ 1073741824 * (k : Int)) ∧ Hid (Below w2.heap.size w2 wr)) (fun _ _ _ i _ => M - (intOf i).toNat)
              case atStart => exact ⟨0, 0, 0, 0, Nat.zero_le _, by go_num, by go_num, by go_num, by go_num, hide ⟨rfl, rfl, rfl⟩, hide (by omega), hide (Below.refl _ _)⟩
              case round =>
                obtain ⟨k, A, B, C, hk, rfl, rfl, rfl, rfl, HE, HBND, HBW⟩ := hrel
                by_cases hkl : k < M
                · have hi : (k : Int) < (M : Int) := by omega
                  have hn2 : ¬ (k : Int) < 0 := by omega
                  have hkL : k < l.length := by rw [← HNL.out]; exact hkl
                  have hkO : k < out.length := by rw [HLEN.out]; exact hkl
                  obtain ⟨bu, ou, huo, -, u0, u1, u2, u3, u4, u5, u6⟩ := ((HIN.out) wr (HBW.out)).1.at hkO
                  obtain ⟨bs, os, hao, -, -⟩ := ((HIN.out) wr (HBW.out)).2.1.at hkL
                  obtain ⟨ba, oa, haa, -⟩ := ((HIN.out) wr (HBW.out)).2.2.at hkl
                  subst huo hao haa
                  rw [(HOV.out) k hkl] at u0 u1 u2 u3 u4 u5 u6
                  obtain ⟨he1, he2, he3⟩ := HE.out
                  obtain ⟨hb1, hb2, hb3, hb4, hb5, hb6⟩ := HBND.out
                  have hsm := (HSAME.out) k hkl
                  have hbd := (HBD.out) k hkl
                  have hal1 := fun j hj => (HALIKE.out) k j hkl hj
                  have hal2 := fun j hj => (HALIKE.out) j k hj hkl
                  have hn1 : sA (fun k => (l.getD k noSz).base + f k) (k + 1) = A + ((l.getD k noSz).base + f k) := by rw [he1]; rfl
                  have hn2' : sA (fun k => (outV l X k).base + f k) (k + 1) = B + ((outV l X k).base + f k) := by rw [he2]; rfl
                  have hn3 : sA (fun k => if (l.getD k noSz).base < (outV l X k).base then (l.getD k noSz).fr else 0) (k + 1) = C + (if (l.getD k noSz).base < (outV l X k).base then (l.getD k noSz).fr else 0) := by rw [he3]; rfl
                  have HKL := hide hkL
                  clear he1 he2 he3 hkL hkO HE HBND
                  generalize outV l X k = x at *
                  obtain ⟨x1, x2, x3, x4, x5, x6, x7⟩ := x
                  generalize hsk : l.getD k noSz = s at *
                  have HSK := hide hsk
                  clear hsk
                  obtain ⟨a1, a2, a3, a4, a5, a6, a7⟩ := s
                  generalize hfk : f k = fk at *
                  have HFK := hide hfk
                  clear hfk
                  simp only at u0 u1 u2 u3 u4 u5 u6 hsm hbd hal1 hal2 hn1 hn2' hn3
                  obtain ⟨m1, m2, m3, m4, m5⟩ := hsm
                  obtain ⟨⟨d1, d2, d3, d4⟩, d5, d6⟩ := hbd
                  have HN1 := hide hn1
                  have HN2 := hide hn2'
                  have HN3 := hide hn3
                  have HM2 := hide m2
                  have HAL1 : Hid (∀ j, j < M → a6 < x6 → (l.getD j noSz).base < (outV l X j).base → (l.getD j noSz).fr = a3 → (outV l X j).base ≤ x6 + 1) := hide hal1
                  have HAL2 : Hid (∀ j, j < M → (l.getD j noSz).base < (outV l X j).base → a6 < x6 → a3 = (l.getD j noSz).fr → x6 ≤ (outV l X j).base + 1) := hide hal2
                  have hx3 : 0 ≤ x3 ∧ x3 ≤ 1073741824 := by omega
                  obtain ⟨hx30, hx31⟩ := hx3
                  have HM1 : Hid (x2 = 5 ∨ x6 = a6) := hide (by
                    by_cases e : a2 = 5
                    · exact .inl (by rw [m1]; exact e)
                    · exact .inr (m5 e))
                  clear hn1 hn2' hn3 hal1 hal2 m1 m2 m5
                  have hX3 : SzR (wr.alloc (.cells #[.int .i64 x1, .int .i64 x2, .int .i64 x3, .bool x4, .int .i64 x5, .int .i64 x6, .int .i64 x7] 32)) wr.heap.size ⟨x1, x2, x3, x4, x5, x6, x7⟩ := SzR.new wr ⟨x1, x2, x3, x4, x5, x6, x7⟩
                  have HX3 := hide hX3
                  have HB3 := hide ((HBW.out).alloc (HBW.out).size (.cells #[.int .i64 x1, .int .i64 x2, .int .i64 x3, .bool x4, .int .i64 x5, .int .i64 x6, .int .i64 x7] 32))
                  clear hX3 HBW
                  go_upto_region 16 with fail
                  generalize wr.alloc (.cells #[.int .i64 x1, .int .i64 x2, .int .i64 x3, .bool x4, .int .i64 x5, .int .i64 x6, .int .i64 x7] 32) = W3 at *
                  generalize wr.heap.size = V at *
                  clear u0 u1 u2 u3 u4 u5 u6
                  obtain ⟨t0, t1, t2, t3, t4, t5, t6⟩ := (HX3.out).cells
                  have hb5 := (((HIN.out) W3 (HB3.out)).2.1.at0 (HKL.out)).2.2.2.2.2.1
                  rw [HSK.out] at hb5
                  have s5 : W3.cell? ⟨bs, os + k * 7 + 5, none⟩ = some (.int .i64 a6) := hb5
                  clear hb5
                  have q1 : decide (x6 < a6) = false := decide_eq_false (by omega)
                  go_cut [84] (fun bb wx => bb = .bool false ∧ Hid (Below w2.heap.size w2 wx) ∧ Hid (SzR wx V ⟨x1, x2, x3, x4, x5, x6, x7⟩))
                  case first =>
                    by_cases hm5 : x2 = 5
                    · have q2 : (x2 != 5) = false := by simp [hm5]
                      clear hm5
                      go_quiet (fail)
                      have HB4 : Hid (Below w2.heap.size w2 (World.drewN W3 nq)) := hide ((HB3.out).trans ((belowQ W3 nq).mono (HB3.out).size))
                      have HX4 : Hid (SzR (World.drewN W3 nq) V ⟨x1, x2, x3, x4, x5, x6, x7⟩) := HX3
                      generalize World.drewN W3 nq = W4 at *
                      go_wp2_with fail
                      go_meet
                      exact ⟨rfl, HB4, HX4⟩
                    · have q2 : (x2 != 5) = true := by simp [hm5]
                      have q3 : (x6 != a6) = false := by have h := (HM1.out).resolve_left hm5; simp [h]
                      clear hm5
                      go_quiet (fail)
                      have HB4 : Hid (Below w2.heap.size w2 (World.drewN W3 nq)) := hide ((HB3.out).trans ((belowQ W3 nq).mono (HB3.out).size))
                      have HX4 : Hid (SzR (World.drewN W3 nq) V ⟨x1, x2, x3, x4, x5, x6, x7⟩) := HX3
                      generalize World.drewN W3 nq = W4 at *
                      go_wp2_with fail
                      go_meet
                      exact ⟨rfl, HB4, HX4⟩
                  case rest =>
                    obtain ⟨rfl, HB4, HX4⟩ := hcut
                    clear HB3 HX3 t0 t1 t2 t3 t4 t5 t6 s5 q1
                    have hb5 := (((HIN.out) wc (HB4.out)).2.1.at0 (HKL.out)).2.2.2.2.2.1
                    rw [HSK.out] at hb5
                    have s5 : wc.cell? ⟨bs, os + k * 7 + 5, none⟩ = some (.int .i64 a6) := hb5
                    clear hb5
                    have e1 : wc.cell? ⟨ba, oa + k, none⟩ = some (.int .i64 fk) := by rw [((HIN.out) wc (HB4.out)).2.2.cell26 hkl, HFK.out]
                    obtain ⟨t0, t1, t2, t3, t4, t5, t6⟩ := (HX4.out).cells
                    have hwa : IntKind.i64.wrap (a6 + fk) = a6 + fk := IntWalk.i64_in _ ⟨by omega, by omega⟩
                    have hwb : IntKind.i64.wrap (A + (a6 + fk)) = A + (a6 + fk) := IntWalk.i64_in _ ⟨by omega, by omega⟩
                    have hwc : IntKind.i64.wrap (x6 + fk) = x6 + fk := IntWalk.i64_in _ ⟨by omega, by omega⟩
                    have hwd : IntKind.i64.wrap (B + (x6 + fk)) = B + (x6 + fk) := IntWalk.i64_in _ ⟨by omega, by omega⟩
                    go_upto_region 18 with fail
                    go_quiet (fail)
                    have HB5 : Hid (Below w2.heap.size w2 (World.drewN wc nq)) := hide ((HB4.out).trans ((belowQ wc nq).mono (HB4.out).size))
                    have HX5 : Hid (SzR (World.drewN wc nq) V ⟨x1, x2, x3, x4, x5, x6, x7⟩) := HX4
                    clear HB4 HX4 s5 e1 t0 t1 t2 t3 t4 t5 t6
                    generalize World.drewN wc nq = W5 at *
                    have hb5 := (((HIN.out) W5 (HB5.out)).2.1.at0 (HKL.out)).2.2.2.2.2.1
                    rw [HSK.out] at hb5
                    have s5 : W5.cell? ⟨bs, os + k * 7 + 5, none⟩ = some (.int .i64 a6) := hb5
                    clear hb5
                    have e1 : W5.cell? ⟨ba, oa + k, none⟩ = some (.int .i64 fk) := by rw [((HIN.out) W5 (HB5.out)).2.2.cell26 hkl, HFK.out]
                    obtain ⟨t0, t1, t2, t3, t4, t5, t6⟩ := (HX5.out).cells
                    go_upto_region 19 with fail
                    go_quiet (fail)
                    have HB6 : Hid (Below w2.heap.size w2 (World.drewN W5 nq)) := hide ((HB5.out).trans ((belowQ W5 nq).mono (HB5.out).size))
                    have HX6 : Hid (SzR (World.drewN W5 nq) V ⟨x1, x2, x3, x4, x5, x6, x7⟩) := HX5
                    clear HB5 HX5 s5 e1 t0 t1 t2 t3 t4 t5 t6
                    generalize World.drewN W5 nq = W6 at *
                    have hb5 := (((HIN.out) W6 (HB6.out)).2.1.at0 (HKL.out)).2.2.2.2.2.1
                    rw [HSK.out] at hb5
                    have s5 : W6.cell? ⟨bs, os + k * 7 + 5, none⟩ = some (.int .i64 a6) := hb5
                    clear hb5
                    obtain ⟨t0, t1, t2, t3, t4, t5, t6⟩ := (HX6.out).cells
                    by_cases hgr : a6 < x6
                    · have q5 : decide (a6 < x6) = true := decide_eq_true hgr
                      go_upto_region 20 with fail
                      go_quiet (fail)
                      have HB7 : Hid (Below w2.heap.size w2 (World.drewN W6 nq)) := hide ((HB6.out).trans ((belowQ W6 nq).mono (HB6.out).size))
                      have HX7 : Hid (SzR (World.drewN W6 nq) V ⟨x1, x2, x3, x4, x5, x6, x7⟩) := HX6
                      clear HB6 HX6 s5 t0 t1 t2 t3 t4 t5 t6
                      generalize World.drewN W6 nq = W7 at *
                      obtain ⟨t0, t1, t2, t3, t4, t5, t6⟩ := (HX7.out).cells
                      have HAL1' := HAL1
                      clear HAL1'
                      have HGR := hide hgr
                      go_wp2_with fail
                      go_loopw [120] (fun i wr => ∃ j : Nat, j ≤ M ∧ i = .int .i64 (j : Int) ∧ Hid (Below w2.heap.size w2 wr) ∧ Hid (SzR wr V ⟨x1, x2, x3, x4, x5, x6, x7⟩)) (fun i _ => M - (intOf i).toNat)
                      case atStart => exact ⟨0, Nat.zero_le _, by go_num, HB7, HX7⟩
                      case round =>
                        clear HB7 HX7
                        obtain ⟨j, hj, rfl, HBq, HXq⟩ := hrel
                        by_cases hjl : j < M
                        · have hij : (j : Int) < (M : Int) := by omega
                          have hjn : ¬ (j : Int) < 0 := by omega
                          have hjO : j < out.length := by rw [HLEN.out]; exact hjl
                          have hjL : j < l.length := by rw [← HNL.out]; exact hjl
                          obtain ⟨v0, v1, v2, v3, v4, v5, v6⟩ := ((HIN.out) wr (HBq.out)).1.at0 hjO
                          have hov := (HOV.out) j hjl
                          rw [hov] at v0 v1 v2 v3 v4 v5 v6
                          have hsj := (HSAME.out) j hjl
                          have hal1 := (HAL1.out) j hjl
                          have hal2 := (HAL2.out) j hjl
                          have hbj := (HBD.out) j hjl
                          have hcb := (((HIN.out) wr (HBq.out)).2.1.at0 hjL).2.2.2.2.2.1
                          have HJL := hide hjL
                          clear hov hjO hjL
                          generalize outV l X j = y at *
                          obtain ⟨y1, y2, y3, y4, y5, y6, y7⟩ := y
                          generalize hcs : l.getD j noSz = c at *
                          have HCS := hide hcs
                          clear hcs
                          obtain ⟨c1, c2, c3, c4, c5, c6, c7⟩ := c
                          simp only at v0 v1 v2 v3 v4 v5 v6 hsj hal1 hal2 hbj hcb
                          obtain ⟨-, e3, e4, e5, -⟩ := hsj
                          have HC3 := hide e3
                          clear e3
                          obtain ⟨⟨f1, f2, f3, f4⟩, -, -⟩ := hbj
                          have HAL3 := hide hal1
                          have HAL4 := hide hal2
                          have hY : SzR (wr.alloc (.cells #[.int .i64 y1, .int .i64 y2, .int .i64 y3, .bool y4, .int .i64 y5, .int .i64 y6, .int .i64 y7] 32)) wr.heap.size ⟨y1, y2, y3, y4, y5, y6, y7⟩ := SzR.new wr ⟨y1, y2, y3, y4, y5, y6, y7⟩
                          have HB8 := hide ((HBq.out).alloc (HBq.out).size (.cells #[.int .i64 y1, .int .i64 y2, .int .i64 y3, .bool y4, .int .i64 y5, .int .i64 y6, .int .i64 y7] 32))
                          have HX8 : Hid (SzR (wr.alloc (.cells #[.int .i64 y1, .int .i64 y2, .int .i64 y3, .bool y4, .int .i64 y5, .int .i64 y6, .int .i64 y7] 32)) V ⟨x1, x2, x3, x4, x5, x6, x7⟩) := hide ((((Below.refl _ wr).alloc (Nat.le_refl _) (.cells #[.int .i64 y1, .int .i64 y2, .int .i64 y3, .bool y4, .int .i64 y5, .int .i64 y6, .int .i64 y7] 32)).block V (HXq.out).lt).trans HXq.out)
                          clear hal1 hal2 HBq HXq hcb
                          go_upto_region 25 with fail
                          generalize wr.alloc (.cells #[.int .i64 y1, .int .i64 y2, .int .i64 y3, .bool y4, .int .i64 y5, .int .i64 y6, .int .i64 y7] 32) = W8 at *
                          generalize wr.heap.size = VV at *
                          clear v0 v1 v2 v3 v4 v5 v6
                          obtain ⟨t0, t1, t2, t3, t4, t5, t6⟩ := (HX8.out).cells
                          obtain ⟨r0, r1, r2, r3, r4, r5, r6⟩ := hY.cells
                          have hcb := (((HIN.out) W8 (HB8.out)).2.1.at0 (HJL.out)).2.2.2.2.2.1
                          rw [HCS.out] at hcb
                          have cc5 : W8.cell? ⟨bs, os + j * 7 + 5, none⟩ = some (.int .i64 c6) := hcb
                          clear hcb hY HCS HJL
                          have hw1 : IntKind.i64.wrap (x6 + 1) = x6 + 1 := IntWalk.i64_in _ ⟨by omega, by omega⟩
                          have hw2 : IntKind.i64.wrap (y6 + 1) = y6 + 1 := IntWalk.i64_in _ ⟨by omega, by omega⟩
                          by_cases hy5 : y2 = 5
                          · have p1 : (y2 == 5) = true := by simp [hy5]
                            clear hy5
                            by_cases hyf : y3 = x3
                            · have p2 : (y3 == x3) = true := by simp [hyf]
                              by_cases hyb : c6 < y6
                              · have hg1 := (HAL3.out) (HGR.out) hyb (by have := HC3.out; have := HM2.out; omega)
                                have hg2 := (HAL4.out) hyb (HGR.out) (by have := HC3.out; have := HM2.out; omega)
                                clear hyf
                                have p3 : decide (c6 < y6) = true := decide_eq_true hyb
                                have p4 : decide (x6 + 1 < y6) = false := decide_eq_false (by omega)
                                have p5 : decide (y6 + 1 < x6) = false := decide_eq_false (by omega)
                                clear hg1 hg2 hyb
                                go_quiet (fail)
                                have HB9 : Hid (Below w2.heap.size w2 (World.drewN W8 nq)) := hide ((HB8.out).trans ((belowQ W8 nq).mono (HB8.out).size))
                                have HX9 : Hid (SzR (World.drewN W8 nq) V ⟨x1, x2, x3, x4, x5, x6, x7⟩) := HX8
                                clear HB8 HX8 t0 t1 t2 t3 t4 t5 t6 r0 r1 r2 r3 r4 r5 r6 cc5
                                generalize World.drewN W8 nq = W9 at *
                                go_wp2_with fail
                                go_roundw
                                case rel => exact ⟨j + 1, by omega, by go_num, HB9, HX9⟩
                                case measure => simp [intOf]; omega
                              · have p3 : decide (c6 < y6) = false := decide_eq_false hyb
                                clear hyf hyb
                                go_quiet (fail)
                                have HB9 : Hid (Below w2.heap.size w2 (World.drewN W8 nq)) := hide ((HB8.out).trans ((belowQ W8 nq).mono (HB8.out).size))
                                have HX9 : Hid (SzR (World.drewN W8 nq) V ⟨x1, x2, x3, x4, x5, x6, x7⟩) := HX8
                                clear HB8 HX8 t0 t1 t2 t3 t4 t5 t6 r0 r1 r2 r3 r4 r5 r6 cc5
                                generalize World.drewN W8 nq = W9 at *
                                go_wp2_with fail
                                go_roundw
                                case rel => exact ⟨j + 1, by omega, by go_num, HB9, HX9⟩
                                case measure => simp [intOf]; omega
                            · have p2 : (y3 == x3) = false := by simp [hyf]
                              clear hyf
                              go_quiet (fail)
                              have HB9 : Hid (Below w2.heap.size w2 (World.drewN W8 nq)) := hide ((HB8.out).trans ((belowQ W8 nq).mono (HB8.out).size))
                              have HX9 : Hid (SzR (World.drewN W8 nq) V ⟨x1, x2, x3, x4, x5, x6, x7⟩) := HX8
                              clear HB8 HX8 t0 t1 t2 t3 t4 t5 t6 r0 r1 r2 r3 r4 r5 r6 cc5
                              generalize World.drewN W8 nq = W9 at *
                              go_wp2_with fail
                              go_roundw
                              case rel => exact ⟨j + 1, by omega, by go_num, HB9, HX9⟩
                              case measure => simp [intOf]; omega
                          · have p1 : (y2 == 5) = false := by simp [hy5]
                            clear hy5
                            go_quiet (fail)
                            have HB9 : Hid (Below w2.heap.size w2 (World.drewN W8 nq)) := hide ((HB8.out).trans ((belowQ W8 nq).mono (HB8.out).size))
                            have HX9 : Hid (SzR (World.drewN W8 nq) V ⟨x1, x2, x3, x4, x5, x6, x7⟩) := HX8
                            clear HB8 HX8 t0 t1 t2 t3 t4 t5 t6 r0 r1 r2 r3 r4 r5 r6 cc5
                            generalize World.drewN W8 nq = W9 at *
                            go_wp2_with fail
                            go_roundw
                            case rel => exact ⟨j + 1, by omega, by go_num, HB9, HX9⟩
                            case measure => simp [intOf]; omega
                        · have hij : ¬ (j : Int) < (M : Int) := by omega
                          clear HXq
                          go_wp2_with fail
                          go_roundw
                          case rel => exact ⟨k + 1, A + (a6 + fk), B + (x6 + fk), C + x3, by omega, by go_num, by go_num, by go_num, by go_num, hide ⟨(HN1.out).symm, (HN2.out).symm, by rw [HN3.out]; simp [hgr, HM2.out]⟩, hide (by push_cast; omega), HBq⟩
                          case measure => simp [intOf]; omega
                    · have q5 : decide (a6 < x6) = false := decide_eq_false hgr
                      go_upto_region 20 with fail
                      go_quiet (fail)
                      have HB7 : Hid (Below w2.heap.size w2 (World.drewN W6 nq)) := hide ((HB6.out).trans ((belowQ W6 nq).mono (HB6.out).size))
                      have HX7 : Hid (SzR (World.drewN W6 nq) V ⟨x1, x2, x3, x4, x5, x6, x7⟩) := HX6
                      clear HB6 HX6 s5 t0 t1 t2 t3 t4 t5 t6
                      generalize World.drewN W6 nq = W7 at *
                      go_wp2_with fail
                      go_roundw
                      case rel => exact ⟨k + 1, A + (a6 + fk), B + (x6 + fk), C, by omega, by go_num, by go_num, by go_num, by go_num, hide ⟨(HN1.out).symm, (HN2.out).symm, by rw [HN3.out]; simp [hgr]⟩, hide (by push_cast; omega), HB7⟩
                      case measure => simp [intOf]; omega
                · have hi : ¬ (k : Int) < (M : Int) := by omega
                  obtain ⟨he1, he2, he3⟩ := HE.out
                  have ek : k = M := by omega
                  have hfa := HFALL.out
                  have hff := HFFULL.out
                  rw [ek] at he1 he2 he3
                  rw [← he1, ← he2] at hfa
                  rw [← he2, ← he3] at hff
                  have HFA := hide hfa
                  have HFF := hide hff
                  clear ek he1 he2 he3 hfa hff
                  have q1 : ¬ max size A < B := by have := HFA.out; omega
                  have C1 := hide ((CL2.out) wr (HBW.out))
                  by_cases hp : C < 1000
                  · go_wp2_with fail
                    refine Calls.mono C1.out ?_
                    rintro e w9 ⟨rfl, hb9⟩
                    have B9 := hide hb9
                    clear hb9
                    go_wp2_with fail
                    go_ret
                    exact ⟨rfl, B9.out⟩
                  · have hq := (HFF.out).resolve_left hp
                    have hqb : (B == size) = true := by simp [hq]
                    clear hq
                    go_wp2_with fail
                    refine Calls.mono C1.out ?_
                    rintro e w9 ⟨rfl, hb9⟩
                    have B9 := hide hb9
                    clear hb9
                    go_wp2_with fail
                    go_ret
                    exact ⟨rfl, B9.out⟩

end Go.Proofs.Ytaokpnonhaeniaa
