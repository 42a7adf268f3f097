/- What is left is given to some: the document's own Fill walked; By on both sides. -/
import Derived.Test.YteepknanofjnmaaSpr6
import Derived.Test.YteepknanofjnmaaRShare
namespace Go.Proofs.Yteepknanofjnmaa
open Go.RowKit

theorem RwS.base {w w1 W : World} {G N : Nat} {g : Nat → Int} (h : RwS w1 W G N g) (hb : Below w.heap.size w w1) : RwS w W G N g := ⟨h.mr, hb.trans (h.bel.mono hb.size), Nat.le_trans hb.size h.hG⟩

theorem sA_mono {x : Nat → Int} {N : Nat} (h : ∀ k, k < N → 0 ≤ x k) : ∀ k, k ≤ N → 0 ≤ sA x k ∧ sA x k ≤ sA x N := by
  have h1 : ∀ k, k ≤ N → 0 ≤ sA x k := by
    intro k
    induction k with
    | zero => intro _; exact Int.le_refl _
    | succ k ih => intro hk; simp only [sA]; have := ih (by omega); have := h k (by omega); omega
  have h2 : ∀ d k, k + d = N → sA x k ≤ sA x N := by
    intro d
    induction d with
    | zero => intro k hk; rw [show k = N by omega]; exact Int.le_refl _
    | succ d ih => intro k hk; have := ih (k + 1) (by omega); have := h k (by omega); simp only [sA] at *; omega
  exact fun k hk => ⟨h1 k hk, h2 (N - k) k (by omega)⟩

theorem isUp_le {f x : Nat → Int} {N : Nat} {s : Int} (h : IsUp f N s x) : sA x N ≤ s := by
  rcases isUp_sum h with ⟨a, _⟩ | ⟨a, b⟩ <;> omega

/-- What is got when the first have been looked at. -/
def gH (g : Nat → Int) (b : Nat → Bool) (p : List Int) (i k : Nat) : Int := if k < i then g k + (if b k then p.getD (cnt b k) 0 else 0) else g k

theorem gH_at (g : Nat → Int) (b : Nat → Bool) (p : List Int) (i : Nat) : gH g b p i i = g i := by unfold gH; simp

theorem gH_succ (g : Nat → Int) (b : Nat → Bool) (p : List Int) (i j : Nat) (h : b i = true) : upd (gH g b p i) i (g i + p.getD (cnt b i) 0) j = gH g b p (i + 1) j := by
  unfold upd gH
  by_cases e : j = i
  · subst e; rw [if_pos rfl, if_pos (by omega), h]; simp
  · rw [if_neg e]
    by_cases h2 : j < i
    · simp only [if_pos h2, if_pos (show j < i + 1 by omega)]
    · simp only [if_neg h2, if_neg (show ¬ j < i + 1 by omega)]

theorem gH_skip (g : Nat → Int) (b : Nat → Bool) (p : List Int) (i j : Nat) (h : b i = false) : gH g b p i j = gH g b p (i + 1) j := by
  unfold gH
  by_cases e : j = i
  · subst e; rw [if_neg (by omega), if_pos (by omega), h]; simp
  · by_cases h2 : j < i
    · simp only [if_pos h2, if_pos (show j < i + 1 by omega)]
    · simp only [if_neg h2, if_neg (show ¬ j < i + 1 by omega)]

theorem spV_full {n : Int} (h0 : 0 ≤ n) {c : Nat} (h1 : 1 ≤ c) (h2 : c ≤ 65536) : (spV n (c : Int)).length = c := by
  unfold spV
  rw [if_pos ⟨h0, by omega, by omega⟩, split_len]

set_option maxRecDepth 100000 in
set_option maxHeartbeats 8000000 in
theorem rFill23_any (s : Int) (ao : Option Addr) (N cap : Nat) (f : Nat → Int) (ab : Option Addr) (M cab : Nat) (b : Nat → Bool) (w : World) (h : ArI w ao N f) (hb : ArB w ab M b) (hN : N ≤ 1000000) :
    Calls Try.prog 11 #[.int .i64 s, .slice ao N cap, .slice ab M cab] w fun e w' => ∃ G g, e = .returned (.slice (some ⟨G, 0, none⟩) N N) ∧ RwS w w' G N g ∧ FlQ s N f M b g := by
  have HB := hide (fun W (hbb : Below w.heap.size w W) => hb.below hbb)
  have CU := hide (fun W (hbb : Below w.heap.size w W) => rUp23_any s ao N cap f W (h.below hbb) hN)
  have CR := hide (fun W (hbb : Below w.heap.size w W) => rright23_any s ao N cap f W (h.below hbb) (by omega))
  have HBB := hide hb
  have R0 := hide (RwS.new w N)
  have hmk := made23 N hN
  clear h hb
  generalize hRG : rgS s N f = RG at CR
  cases RG
  · have HV := hide hRG
    clear CU hRG HB HBB
    go_enter Try.func11, Try.ntmps11
    go_upto_region 2 with fail
    generalize World.alloc w _ = w1 at *
    generalize w.heap.size = B at R0 ⊢
    go_wp2_with (go_at_call 14; refine ((CR.out) _ (R0.out).bel).mono ?_; rintro e w' ⟨rfl, hw⟩; subst w')
    go_ret
    first
      | exact ⟨B, rfl, _, R0.out, .inr ⟨.inr HV.out, fun _ _ => rfl⟩⟩
      | exact ⟨B, _, rfl, R0.out, .inr ⟨.inr HV.out, fun _ _ => rfl⟩⟩
  · by_cases hMN : M = N
    · subst hMN
      have hnn : ((M : Int) != (M : Int)) = false := by simp
      have HV := hide hRG
      clear hRG
      go_enter Try.func11, Try.ntmps11
      go_upto_region 2 with fail
      have hsz : (w.alloc (.cells (madeCells #[.int .i64 0] M) 3)).heap.size = w.heap.size + 1 := World.size_alloc _ _
      generalize hw1 : World.alloc w _ = w1 at *
      clear hw1 hmk
      go_upto_region 4 with (go_at_call 14; refine ((CR.out) _ (R0.out).bel).mono ?_; rintro e w' ⟨rfl, hw⟩; subst w')
      have hb1 := (R0.out).bel
      clear R0 CR HB
      go_upto_region 5 with (go_at_call 9; refine ((CU.out) _ hb1).mono ?_; rintro e w2 ⟨G, g, rfl, hst, hq⟩)
      have ST := hide (hst.base hb1)
      obtain ⟨hx, hup⟩ : rgS s M f = true ∧ IsUp f M s g := by
        rcases hq with h | h
        · exact h
        · have := HV.out; rw [h.1] at this; exact absurd this (by decide)
      obtain ⟨hs0, hs1, hN1, hf⟩ := rgS_parts hx
      have hg := fun k hk => isUp_bd hup (fun k hk => (hf k hk).1) k hk
      have hle := isUp_le hup
      have HSA : Hid (∀ k, k ≤ M → 0 ≤ s - sA g k ∧ s - sA g k ≤ s) := hide (fun k hk => by have := sA_mono (fun k hk => (hg k hk).1) k hk; omega)
      have HG : Hid (∀ k, k < M → 0 ≤ g k ∧ g k ≤ 1125899906842624) := hide (fun k hk => ⟨(hg k hk).1, by have := (hg k hk).2; have := (hf k hk).2; omega⟩)
      have HQ : Hid (∀ g', (∀ k, k < M → g' k = g k + if b k then (spV (s - sA g M) (cnt b M)).getD (cnt b k) 0 else 0) → FlQ s M f M b g') := hide (fun g' hg' => .inl ⟨rfl, hx, g, hup, hg'⟩)
      have HCL := hide (cnt_le b)
      have HCT := hide (fun k (hk : k < M) (h : b k = true) => cnt_lt hk h)
      clear hst hq hx hup hf hg hle CU hb1 hsz HV
      go_wp2_with fail
      go_loopw [8, 9, 10] (fun l m i wr => ∃ (k c : Nat) (L : Int), k ≤ M ∧ i = .int .i64 (k : Int) ∧ m = .int .i64 (c : Int) ∧ l = .int .i64 L ∧ wr = w2 ∧ c ≤ k ∧ 0 ≤ L ∧ L ≤ s ∧ Hid (L = s - sA g k) ∧ Hid (c = cnt b k)) (fun _ _ i _ => M - (intOf i).toNat)
      case atStart => exact ⟨0, 0, s, Nat.zero_le _, by go_num, by go_num, by go_num, rfl, Nat.le_refl _, hs0, Int.le_refl _, hide (by simp [sA]), hide rfl⟩
      case round =>
        obtain ⟨k, c, L, hk, rfl, rfl, rfl, rfl, hck, hL0, hL1, HLE, HC⟩ := hrel
        by_cases hkl : k < M
        · have hi : (k : Int) < (M : Int) := by omega
          have hn2 : ¬ (k : Int) < 0 := by omega
          have e1 := (ST.out).mr.cell hkl
          obtain ⟨bb, off, rfl, hb0, hc0⟩ := (HBB.out).at2 hkl
          have e2 := ((ST.out).bel.cell (p := ⟨bb, off + k, none⟩) hb0).trans hc0
          have hgk := (HG.out) k hkl
          have hsa : L - g k = s - sA g (k + 1) := by rw [HLE.out]; simp only [sA]; omega
          have hsb := (HSA.out) (k + 1) (by omega)
          rw [← hsa] at hsb
          have HLE2 := hide hsa
          have hcc : cnt b (k + 1) = c + if b k then 1 else 0 := by rw [HC.out]; rfl
          clear hc0 hb0 hsa HLE HC HQ
          generalize g k = x at *
          generalize b k = q at *
          cases q
          · have HC2 : Hid (c = cnt b (k + 1)) := hide (by rw [hcc]; rfl)
            clear hcc
            go_wp2_with fail
            go_roundw
            case rel => exact ⟨k + 1, c, _, by omega, by go_num, by go_num, by go_num, by trivial, by omega, by omega, by omega, HLE2, HC2⟩
            case measure => simp [intOf]; omega
          · have HC2 : Hid (c + 1 = cnt b (k + 1)) := hide (by rw [hcc]; rfl)
            clear hcc
            go_wp2_with fail
            go_roundw
            case rel => exact ⟨k + 1, c + 1, _, by omega, by go_num, by go_num, by go_num, by trivial, by omega, by omega, by omega, HLE2, HC2⟩
            case measure => simp [intOf]; omega
        · have hi : ¬ (k : Int) < (M : Int) := by omega
          have ek : k = M := by omega
          have hLM := HLE.out
          have hCM := HC.out
          rw [ek] at hLM hCM
          rw [← hLM, ← hCM] at HQ
          have HCT2 := hide (fun k (hk : k < M) (h : b k = true) => (show cnt b k < c by rw [hCM]; exact (HCT.out) k hk h))
          have HSF := hide (fun (h1 : 1 ≤ c) (h2 : c ≤ 65536) => spV_full hL0 h1 h2)
          have HPB := hide (fun i => spV_bd hL0 (c : Int) i)
          clear hLM hCM HLE HC HCT HSA
          generalize hP : spV L (c : Int) = P at HQ HSF HPB
          clear ek
          have hG3 : G < wr.heap.size := (ST.out).mr.lt
          go_upto_region 14 with (go_at_call 19; refine (rsplitF_any L (c : Int) _ (by omega)).mono ?_; rintro e w3 ⟨vp, rfl, hrp, hb3⟩; obtain ⟨ap, cap2, rfl, hp⟩ := hrp.arN hG3)
          have ST3 := hide ((ST.out).next hb3)
          obtain ⟨L2, hL2⟩ : ∃ L2, L2 = P.length := ⟨_, rfl⟩
          simp only [hP] at hp
          rw [← hL2] at hp HSF ⊢
          have HP3 := hide hp
          have R1 : Hid (RwS w w3 G M (gH g b P 0)) := hide ((ST3.out).ext (fun k _ => by unfold gH; simp))
          clear hp hb3 hrp hL2 hP ST ST3
          go_wp2_with fail
          go_loopw [12, 13] (fun m i wr => ∃ k c : Nat, k ≤ M ∧ i = .int .i64 (k : Int) ∧ m = .int .i64 (c : Int) ∧ c ≤ k ∧ Hid (c = cnt b k) ∧ Hid (RwS w wr G M (gH g b P k)) ∧ Hid (ArN wr ap L2 (fun k => P.getD k 0) G)) (fun _ i _ => M - (intOf i).toNat)
          case atStart => exact ⟨0, 0, Nat.zero_le _, by go_num, by go_num, Nat.le_refl _, hide rfl, R1, HP3⟩
          case round =>
            clear R1 HP3
            obtain ⟨k, d, hk, rfl, rfl, hdk, HD, ST, HP⟩ := hrel
            by_cases hkl : k < M
            · have hi : (k : Int) < (M : Int) := by omega
              have hn2 : ¬ (k : Int) < 0 := by omega
              have e1 := (ST.out).mr.cell hkl
              have e4 := (ST.out).mr.frozen
              rw [gH_at] at e1
              obtain ⟨bb, off, rfl, hb0, hc0⟩ := (HBB.out).at2 hkl
              have e2 := ((ST.out).bel.cell (p := ⟨bb, off + k, none⟩) hb0).trans hc0
              have hgk := (HG.out) k hkl
              have hcc : cnt b (k + 1) = d + if b k then 1 else 0 := by rw [HD.out]; rfl
              have HS1 := hide (fun h j => gH_skip g b P k j h)
              have HS2 := hide (fun h j => gH_succ g b P k j h)
              have hct := fun h => (HCT2.out) k hkl h
              rw [← HD.out] at HS2 hct
              clear hc0 hb0 HD HQ HCT2 HG
              generalize b k = q at *
              cases q
              · have HC2 : Hid (d = cnt b (k + 1)) := hide (by rw [hcc]; rfl)
                have ST2 := hide ((ST.out).ext (fun j _ => (HS1.out) rfl j))
                clear hcc hct HS1 HS2 ST
                go_wp2_with fail
                go_roundw
                case rel => exact ⟨k + 1, d, by omega, by go_num, by go_num, by omega, HC2, ST2, HP⟩
                case measure => simp [intOf]; omega
              · have HC2 : Hid (d + 1 = cnt b (k + 1)) := hide (by rw [hcc]; rfl)
                have hdc := hct rfl
                have hLc := (HSF.out) (by omega) (by omega)
                have hd2 : (d : Int) < (L2 : Int) := by omega
                obtain ⟨b2, o2, rfl, hn3, e3⟩ := (HP.out).at (show d < L2 by omega)
                have hpb := (HPB.out) d
                have ST2 := hide (((ST.out).put k (g k + P.getD d 0)).ext (fun j _ => (HS2.out) rfl j))
                have HP2 := hide ((HP.out).put k (.int .i64 (g k + P.getD d 0)))
                have hn4 : ¬ (d : Int) < 0 := by omega
                clear hcc hct HS1 HS2 ST HP HPB hLc
                generalize P.getD d 0 = y at *
                generalize g k = x at *
                go_upto_region 19 with fail
                have ST3 := hide ((ST2.out).drew)
                have HP3 := hide ((HP2.out).next (Below.refl _ _).drew)
                clear ST2 HP2
                go_region
                go_wp2_with fail
                go_roundw
                case rel => exact ⟨k + 1, d + 1, by omega, by go_num, by go_num, by omega, HC2, ST3, HP3⟩
                case measure => simp [intOf]; omega
            · have hi : ¬ (k : Int) < (M : Int) := by omega
              have HS : Hid (RwS w wr G M (fun j => g j + if b j then P.getD (cnt b j) 0 else 0)) := hide ((ST.out).ext (fun j hj => by unfold gH; rw [if_pos (by omega)]))
              have HQ2 := hide ((HQ.out) (fun j => g j + if b j then P.getD (cnt b j) 0 else 0) (fun _ _ => rfl))
              clear HG HPB ST HP HQ HD
              go_wp2_with fail
              go_ret
              first
                | exact ⟨G, rfl, _, HS.out, HQ2.out⟩
                | exact ⟨G, _, rfl, HS.out, HQ2.out⟩
    · have hnn : ((M : Int) != (N : Int)) = true := by simp; omega
      clear CU hRG HB HBB
      go_enter Try.func11, Try.ntmps11
      go_upto_region 2 with fail
      generalize World.alloc w _ = w1 at *
      generalize w.heap.size = B at R0 ⊢
      go_wp2_with (go_at_call 14; refine ((CR.out) _ (R0.out).bel).mono ?_; rintro e w' ⟨rfl, hw⟩; subst w')
      go_ret
      first
        | exact ⟨B, rfl, _, R0.out, .inr ⟨.inl hMN, fun _ _ => rfl⟩⟩
        | exact ⟨B, _, rfl, R0.out, .inr ⟨.inl hMN, fun _ _ => rfl⟩⟩

end Go.Proofs.Yteepknanofjnmaa
