/- What is left is given to some: spread.Fill walked. -/
import Derived.Test.YteepknanofjnmaaSpr5
namespace Go.Proofs.Yteepknanofjnmaa
open Go.RowKit

/-- The first N cells of a slice of ints are these, and lie elsewhere. -/
def ArN (w : World) (ao : Option Addr) (N : Nat) (f : Nat → Int) (G : Nat) : Prop :=
  N = 0 ∨ ∃ b off, ao = some ⟨b, off, none⟩ ∧ b ≠ G ∧ b < w.heap.size ∧ ∀ i, i < N → w.cell? ⟨b, off + i, none⟩ = some (.int .i64 (f i))

theorem ArN.next {w w' : World} {ao : Option Addr} {N G : Nat} {f : Nat → Int} (h : ArN w ao N f G) (hb : Below w.heap.size w w') : ArN w' ao N f G := by
  rcases h with h | ⟨b, off, hv, hn, hlt, hc⟩
  · exact .inl h
  · exact .inr ⟨b, off, hv, hn, Nat.lt_of_lt_of_le hlt hb.size, fun i hi => (hb.cell (p := ⟨b, off + i, none⟩) hlt).trans (hc i hi)⟩

theorem ArN.put {w : World} {ao : Option Addr} {N G : Nat} {f : Nat → Int} (h : ArN w ao N f G) (j : Nat) (v : Value) : ArN (w.setCell ⟨G, j, none⟩ v) ao N f G := by
  rcases h with h | ⟨b, off, hv, hn, hlt, hc⟩
  · exact .inl h
  · exact .inr ⟨b, off, hv, hn, by simpa using hlt, fun i hi => (World.cell?_of_block (w := w) (Below.heap_setCell _ _ _ _ (by show b ≠ G; exact hn))).trans (hc i hi)⟩

theorem ArN.at {w : World} {ao : Option Addr} {N G : Nat} {f : Nat → Int} (h : ArN w ao N f G) {k : Nat} (hk : k < N) : ∃ b off, ao = some ⟨b, off, none⟩ ∧ b ≠ G ∧ w.cell? ⟨b, off + k, none⟩ = some (.int .i64 (f k)) := by
  rcases h with h | ⟨b, off, hv, hn, hlt, hc⟩
  · omega
  · exact ⟨b, off, hv, hn, hc k hk⟩

theorem ReadsF.arN {base G : Nat} {w : World} {v : Value} {xs : List Int} (h : ReadsF base w v xs) (hG : G < base) : ∃ ao cap, v = .slice ao xs.length cap ∧ ArN w ao xs.length (fun k => xs.getD k 0) G := by
  rcases h with ⟨rfl, ao, cap, rfl⟩ | ⟨b, off, cap, rfl, hb, hlt, hc⟩
  · exact ⟨_, _, rfl, .inl rfl⟩
  · exact ⟨_, _, rfl, .inr ⟨b, off, rfl, by omega, hlt, hc⟩⟩

/-- What is got when the first parts are given. -/
def gF (g : Nat → Int) (b : Nat → Bool) (p : List Int) (i k : Nat) : Int := g k + if b k && decide (cnt b k < i) then p.getD (cnt b k) 0 else 0

theorem gF_zero (g : Nat → Int) (b : Nat → Bool) (p : List Int) (k : Nat) : gF g b p 0 k = g k := by unfold gF; simp

theorem cnt_inj {b : Nat → Bool} {j k : Nat} (hj : b j = true) (hk : b k = true) (h : cnt b j = cnt b k) : j = k := by
  rcases Nat.lt_trichotomy j k with h1 | h1 | h1
  · have := cnt_lt h1 hj; omega
  · exact h1
  · have := cnt_lt h1 hk; omega

theorem gF_succ (g : Nat → Int) (b : Nat → Bool) (p : List Int) (i k j : Nat) (hk : b k = true) (hi : cnt b k = i) : upd (gF g b p i) k (g k + p.getD i 0) j = gF g b p (i + 1) j := by
  unfold upd gF
  by_cases e : j = k
  · subst e
    rw [if_pos rfl, hk, hi]
    simp
  · rw [if_neg e]
    cases hb : b j
    · simp
    · have hne : cnt b j ≠ i := fun h => e (cnt_inj hb hk (by omega))
      by_cases h : cnt b j < i
      · rw [if_pos (by simp [h]), if_pos (by simp; omega)]
      · rw [if_neg (by simp [h]), if_neg (by simp; omega)]

theorem gF_at (g : Nat → Int) (b : Nat → Bool) (p : List Int) (i k : Nat) (hi : cnt b k = i) : gF g b p i k = g k := by
  unfold gF
  rw [hi]
  simp

theorem gF_all (g : Nat → Int) (b : Nat → Bool) (p : List Int) (k : Nat) : gF g b p p.length k = g k + if b k then p.getD (cnt b k) 0 else 0 := by
  unfold gF
  cases hb : b k
  · simp
  · by_cases h : cnt b k < p.length
    · rw [if_pos (by simp [h]), if_pos rfl]
    · rw [if_neg (by simp [h]), if_pos rfl, List.getD_eq_getElem?_getD, List.getElem?_eq_none (by omega)]
      rfl

theorem spV_len2 (n : Int) (c : Nat) : (spV n (c : Int)).length ≤ c := by
  unfold spV
  split
  · rw [split_len]; exact Nat.le_refl _
  · exact Nat.zero_le _

theorem spV_bd {n : Int} (h0 : 0 ≤ n) (p : Int) (i : Nat) : 0 ≤ (spV n p).getD i 0 ∧ (spV n p).getD i 0 ≤ n := by
  unfold spV
  split
  · rename_i h
    by_cases hi : i < p.toNat
    · rw [show p = ((p.toNat : Nat) : Int) by omega, split_at (by omega)]
      have a := part_nonneg h0 (show 1 ≤ ((p.toNat : Nat) : Int) by omega) i
      have b := psum_bd (M := n) (P := p.toNat) h0 (by omega) (k := i + 1) (by omega)
      have c := psum_bd (M := n) (P := p.toNat) h0 (by omega) (k := i) (by omega)
      have d : psum n ((p.toNat : Nat) : Int) (i + 1) = psum n ((p.toNat : Nat) : Int) i + part n ((p.toNat : Nat) : Int) i := rfl
      omega
    · rw [List.getD_eq_getElem?_getD, List.getElem?_eq_none (by simp [splitV]; omega)]
      exact ⟨Int.le_refl _, h0⟩
  · exact ⟨Int.le_refl _, h0⟩

theorem sA_nonneg {x : Nat → Int} : ∀ N, (∀ k, k < N → 0 ≤ x k) → ∀ k, k < N → x k ≤ sA x N
  | 0, _, k, hk => absurd hk (Nat.not_lt_zero _)
  | N + 1, h, k, hk => by
    have hs : ∀ M, M ≤ N → 0 ≤ sA x M := by
      intro M
      induction M with
      | zero => intro _; exact Int.le_refl _
      | succ M ih => intro hM; simp only [sA]; have := ih (by omega); have := h M (by omega); omega
    simp only [sA]
    by_cases e : k = N
    · subst e; have := hs k (Nat.le_refl _); omega
    · have := sA_nonneg N (fun k hk => h k (by omega)) k (by omega)
      have := h N (by omega)
      omega

theorem eqk23 (x a : Int) : (x = a ∧ (x == a) = true) ∨ (¬ x = a ∧ (x == a) = false) := by
  by_cases h : x = a
  · exact .inl ⟨h, by simp [h]⟩
  · exact .inr ⟨h, by simp [h]⟩

set_option maxRecDepth 100000 in
set_option maxHeartbeats 8000000 in
theorem fill23_any (s : Int) (ao : Option Addr) (N cap : Nat) (f : Nat → Int) (ab : Option Addr) (M cab : Nat) (b : Nat → Bool) (w : World) (h : ArI w ao N f) (hb : ArB w ab M b) (hN : N ≤ 1000000) :
    Calls Try.prog 10 #[.int .i64 s, .slice ao N cap, .slice ab M cab] w fun e w' => ∃ G g, e = .returned (.slice (some ⟨G, 0, none⟩) N N) ∧ RwS w w' G N g ∧ FlQ s N f M b g := by
  have HB := hide (fun W (hbb : Below w.heap.size w W) => hb.below hbb)
  have CU := hide (up23_any s ao N cap f w h hN)
  by_cases hMN : M = N
  · subst hMN
    have CP := hide (fun W (hbb : Below w.heap.size w W) => places_any ab M cab b W (hb.below hbb) hN)
    have hnn : ((M : Int) != (M : Int)) = false := by simp
    clear h hb
    go_enter Try.func10, Try.ntmps10
    go_wp2_with fail
    refine (CU.out).mono ?_
    rintro e w1 ⟨G, g, left, rfl, hG, hmk, hbel, hR⟩
    have ST := hide (RwS.mk hmk hbel hG)
    clear CU hmk hbel hG
    rcases eqk23 left 0 with ⟨h0, h0b⟩ | ⟨h0, h0b⟩
    · have HQ : Hid (FlQ s M f M b g) := hide (by
        rcases hR with ⟨a, b1, c, d⟩ | ⟨a, b1, c⟩
        · refine .inl ⟨rfl, a, g, b1, fun k hk => ?_⟩
          rw [← c, h0, spV_zero]
          simp
        · exact .inr ⟨.inr a, b1⟩)
      subst h0
      clear hR
      go_wp2_with fail
      go_ret
      first
        | exact ⟨G, rfl, g, ST.out, HQ.out⟩
        | exact ⟨G, g, rfl, ST.out, HQ.out⟩
    · rcases hR with ⟨a, b1, c, d⟩ | ⟨a, b1, c⟩
      · obtain ⟨hs0, hs1, hN1, hf⟩ := rgS_parts a
        have hg := fun k hk => isUp_bd b1 (fun k hk => (hf k hk).1) k hk
        have hgs := sA_nonneg M (fun k hk => (hg k hk).1)
        have hlen := plL_len b M
        have hcl := cnt_le b M
        have HQ : Hid (∀ g', (∀ k, k < M → g' k = g k + if b k then (spV left (cnt b M)).getD (cnt b k) 0 else 0) → FlQ s M f M b g') := hide (fun g' hg' => .inl ⟨rfl, a, g, b1, fun k hk => by rw [← c]; exact hg' k hk⟩)
        have HG : Hid (∀ k, k < M → 0 ≤ g k ∧ g k ≤ 1125899906842624) := hide (fun k hk => ⟨(hg k hk).1, by have := (hg k hk).2; have := (hf k hk).2; omega⟩)
        have HPL := hide (plL_of b M)
        have hls : left ≤ s := by
          have : 0 ≤ sA g M := by
            by_cases e : M = 0
            · subst e; exact Int.le_refl _
            · have := hgs 0 (by omega); have := hg 0 (by omega); omega
          omega
        have HSB := hide (fun c i => spV_bd d c i)
        have HSL := hide (spV_len2 left)
        clear hg hgs b1 a c hf
        go_upto_region 7 with (go_at_call 17; refine ((CP.out) _ (ST.out).bel).mono ?_; rintro e w2 ⟨vm, rfl, hrm, hb2⟩)
        clear CP
        generalize hPL : plL b M = PL at *
        have HLEN := hide hlen
        have hG2 : G < w1.heap.size := (ST.out).mr.lt
        obtain ⟨am, cam, rfl, hm⟩ := hrm.arN hG2
        have hb2s := hb2.size
        have ST2 := hide ((ST.out).next hb2)
        clear ST hrm hb2
        rw [hlen] at hm ⊢
        generalize hC : cnt b M = C at *
        clear hC hPL hlen
        have hG3 : G < w2.heap.size := (ST2.out).mr.lt
        go_upto_region 8 with (go_at_call 18; refine (splitF_any left (C : Int) _ (by omega)).mono ?_; rintro e w3 ⟨vp, rfl, hrp, hb3⟩; obtain ⟨ap, cap2, rfl, hp⟩ := hrp.arN hG3)
        have ST3 := hide ((ST2.out).next hb3)
        have hm3 := hm.next hb3
        have hLC := (HSL.out) C
        have HPB := hide ((HSB.out) (C : Int))
        clear ST2 hm hb3 hrp HSL HSB HLEN
        generalize spV left (C : Int) = P at *
        obtain ⟨L, hL⟩ : ∃ L, L = P.length := ⟨_, rfl⟩
        rw [← hL] at hp hLC ⊢
        have HL := hide hL
        have HM3 := hide hm3
        have HP3 := hide hp
        have R1 : Hid (RwS w w3 G M (gF g b P 0)) := hide ((ST3.out).ext (fun k _ => (gF_zero g b P k).symm))
        clear hL hm3 hp ST3
        go_wp2_with fail
        go_loopw [36] (fun i wr => ∃ k : Nat, k ≤ L ∧ i = .int .i64 (k : Int) ∧ Hid (RwS w wr G M (gF g b P k)) ∧ Hid (ArN wr am C (fun k => PL.getD k 0) G) ∧ Hid (ArN wr ap L (fun k => P.getD k 0) G)) (fun i _ => L - (intOf i).toNat)
        case atStart => exact ⟨0, Nat.zero_le _, by go_num, R1, HM3, HP3⟩
        case round =>
          clear R1 HM3 HP3
          obtain ⟨k, hk, rfl, ST, HM, HP⟩ := hrel
          by_cases hkl : k < L
          · have hi : (k : Int) < (L : Int) := by omega
            have hn2 : ¬ (k : Int) < 0 := by omega
            have hiC : (k : Int) < (C : Int) := by omega
            obtain ⟨q, hq, hbq, hcq, hpq⟩ := (HPL.out) k (by omega)
            obtain ⟨b1, o1, rfl, hn1, e1⟩ := (HM.out).at (show k < C by omega)
            obtain ⟨b2, o2, rfl, hn3, e2⟩ := (HP.out).at hkl
            have e3 := (ST.out).mr.cell hq
            have e4 := (ST.out).mr.frozen
            rw [gF_at g b P k q hcq] at e3
            simp only [hpq] at e1
            have hg2 := (HG.out) q hq
            have hpb := (HPB.out) k
            have HS := hide (((ST.out).put q (g q + P.getD k 0)).ext (fun j _ => gF_succ g b P k q j hbq hcq))
            have HM4 := hide ((HM.out).put q (.int .i64 (g q + P.getD k 0)))
            have HP4 := hide ((HP.out).put q (.int .i64 (g q + P.getD k 0)))
            have hqM : (q : Int) < (M : Int) := by omega
            have hq0 : ¬ (q : Int) < 0 := by omega
            clear HPL HG HPB ST HM HP hbq hcq hpq HQ
            generalize P.getD k 0 = y at *
            generalize g q = x at *
            go_wp2_with fail
            go_roundw
            case rel => exact ⟨k + 1, by omega, by go_num, HS, HM4, HP4⟩
            case measure => simp [intOf]; omega
          · have hi : ¬ (k : Int) < (L : Int) := by omega
            have ek : k = P.length := by rw [← HL.out]; omega
            have HS : Hid (RwS w wr G M (fun j => g j + if b j then P.getD (cnt b j) 0 else 0)) := hide ((ST.out).ext (fun j _ => by rw [ek]; exact gF_all g b P j))
            have HQ2 := hide ((HQ.out) (fun j => g j + if b j then P.getD (cnt b j) 0 else 0) (fun _ _ => rfl))
            clear HPL HG HPB ST HM HP HQ ek
            go_wp2_with fail
            go_ret
            first
              | exact ⟨G, rfl, _, HS.out, HQ2.out⟩
              | exact ⟨G, _, rfl, HS.out, HQ2.out⟩
      · exact absurd c h0
  · have hnn : ((M : Int) != (N : Int)) = true := by simp; omega
    have hmk := made23 N hN
    have R0 := hide (RwS.new w N)
    clear h hb CU HB
    go_enter Try.func10, Try.ntmps10
    go_wp2_with fail
    go_ret
    exact ⟨_, _, rfl, R0.out, .inr ⟨.inl hMN, fun _ _ => rfl⟩⟩

end Go.Proofs.Yteepknanofjnmaa
