/- Room that is given alike: the document's own Up walked. -/
import Derived.Test.YteepknanofjnmaaSpr3
namespace Go.Proofs.Yteepknanofjnmaa
open Go.RowKit

/-- What Up tells. -/
def UpQ (s : Int) (N : Nat) (f g : Nat → Int) : Prop := (rgS s N f = true ∧ IsUp f N s g) ∨ (rgS s N f = false ∧ ∀ k, k < N → g k = 0)

theorem UpR.q {s left : Int} {N : Nat} {f g : Nat → Int} (h : UpR s N f g left) : UpQ s N f g := by
  rcases h with ⟨a, b, _⟩ | ⟨a, b, _⟩
  · exact .inl ⟨a, b⟩
  · exact .inr ⟨a, b⟩

theorem UpQ.uniq {s : Int} {N : Nat} {f g g' : Nat → Int} (h : UpQ s N f g) (h' : UpQ s N f g') : ∀ k, k < N → g k = g' k := by
  rcases h with ⟨a, b⟩ | ⟨a, b⟩ <;> rcases h' with ⟨c, d⟩ | ⟨c, d⟩
  · exact isUp_uniq b d
  · rw [a] at c; exact absurd c (by decide)
  · rw [a] at c; exact absurd c (by decide)
  · intro k hk
    rw [b k hk, d k hk]

/-- The level that the search finds. -/
def LvI (f : Nat → Int) (N : Nat) (s L H : Int) : Prop := 0 ≤ L ∧ L < H ∧ H ≤ 1125899906842625 ∧ sm f L N ≤ s ∧ (H = 1125899906842625 ∨ s < sm f H N)

theorem lvI_up {f : Nat → Int} {N : Nat} {s L : Int} (h : LvI f N s L (L + 1)) (hf : ∀ k, k < N → f k ≤ 1125899906842624) : IsUp f N s (oA f L (s - sm f L N)) := by
  obtain ⟨h0, h1, h2, h3, h4⟩ := h
  by_cases ho : op f L N = 0
  · refine ⟨L, 0, h0, by omega, fun k hk => ?_, .inr ⟨ho, rfl, h3⟩⟩
    have := op_zero ho k hk
    rw [oA_zero]
    unfold oA
    rw [if_neg (by omega)]
  · have hb := op_bd f L N
    rcases h4 with h4 | h4
    · exact absurd (op_of N (fun k hk => by have := hf k hk; omega)) ho
    · rw [sm_next] at h4
      exact ⟨L, _, h0, by omega, fun k hk => rfl, .inl ⟨by omega, by omega⟩⟩

def gM (f : Nat → Int) (L r : Int) (k j : Nat) : Int := if j < k then oA f L r j else 0

theorem gM_succ (f : Nat → Int) (L r x : Int) (k j : Nat) (h : x = oA f L r k) : upd (gM f L r k) k x j = gM f L r (k + 1) j := by
  unfold upd gM
  by_cases e : j = k
  · subst e; simp [h]
  · rw [if_neg e]
    by_cases h2 : j < k
    · rw [if_pos h2, if_pos (by omega)]
    · rw [if_neg h2, if_neg (by omega)]

theorem upd_upd (g : Nat → Int) (k : Nat) (x y : Int) (j : Nat) : upd (upd g k x) k y j = upd g k y j := by
  unfold upd
  split <;> rfl

/-- A row of ints made here, above what was there. -/
structure RwS (w W : World) (G N : Nat) (g : Nat → Int) : Prop where
  mr : MkI W G N g
  bel : Below w.heap.size w W
  hG : w.heap.size ≤ G

theorem RwS.new (w : World) (N : Nat) : RwS w (w.alloc (.cells (madeCells #[.int .i64 0] N) 3)) w.heap.size N (fun _ => 0) := ⟨MkI.new w N, (Below.refl _ w).alloc (Nat.le_refl _) _, Nat.le_refl _⟩

theorem RwS.next {w W W' : World} {G N : Nat} {g : Nat → Int} (h : RwS w W G N g) (hb : Below W.heap.size W W') : RwS w W' G N g := ⟨h.mr.of_block (hb.block _ h.mr.lt), h.bel.trans (hb.mono h.bel.size), h.hG⟩

theorem RwS.put {w W : World} {G N : Nat} {g : Nat → Int} (h : RwS w W G N g) (k : Nat) (x : Int) : RwS w (W.setCell ⟨G, k, none⟩ (.int .i64 x)) G N (upd g k x) := ⟨h.mr.put k x, h.bel.setCell (p := ⟨G, k, none⟩) h.hG _, h.hG⟩

theorem RwS.ext {w W : World} {G N : Nat} {f g : Nat → Int} (h : RwS w W G N f) (e : ∀ k, k < N → f k = g k) : RwS w W G N g := ⟨h.mr.ext e, h.bel, h.hG⟩

theorem RwS.drew {w W : World} {G N : Nat} {g : Nat → Int} (h : RwS w W G N g) : RwS w W.drew G N g := ⟨h.mr.drew, h.bel.drew, h.hG⟩

set_option maxRecDepth 100000 in
set_option maxHeartbeats 8000000 in
theorem rUp23_any (s : Int) (ao : Option Addr) (N cap : Nat) (f : Nat → Int) (w : World) (h : ArI w ao N f) (hN : N ≤ 1000000) :
    Calls Try.prog 9 #[.int .i64 s, .slice ao N cap] w fun e w' => ∃ G g, e = .returned (.slice (some ⟨G, 0, none⟩) N N) ∧ RwS w w' G N g ∧ UpQ s N f g := by
  have H := hide h
  have hmk := made23 N hN
  have HA := hide (fun W (hb : Below w.heap.size w W) => h.below hb)
  have CR := hide (fun W (hb : Below w.heap.size w W) => rright23_any s ao N cap f W (h.below hb) (by omega))
  have CT := hide (fun W (hb : Below w.heap.size w W) c hs hs1 hc0 hc1 hf => taken23_any s c ao N cap f W (h.below hb) hN hs hs1 hc0 hc1 hf)
  have R0 := hide (RwS.new w N)
  generalize hRG : rgS s N f = RG at CR
  clear h
  go_enter Try.func9, Try.ntmps9
  go_upto_region 2 with fail
  generalize World.alloc w _ = w1 at *
  generalize w.heap.size = B at R0 ⊢
  cases RG
  · have HV := hide hRG
    clear CT hmk hRG
    go_wp2_with (go_at_call 14; refine ((CR.out) _ (R0.out).bel).mono ?_; rintro e w' ⟨rfl, hw⟩; subst w')
    go_ret
    exact ⟨B, _, rfl, R0.out, .inr ⟨HV.out, fun _ _ => rfl⟩⟩
  · obtain ⟨hs0, hs1, hN1, hf⟩ := rgS_parts hRG
    have HV := hide hRG
    have HF := hide hf
    have CT2 := hide (fun c h0 h1 => (CT.out) w1 (R0.out).bel c hs0 hs1 h0 h1 (fun k hk => (hf k hk).1))
    have HI0 : Hid (LvI f N s 0 1125899906842625) := hide (by
      refine ⟨by omega, by omega, by omega, ?_, .inl rfl⟩
      have : ∀ M, (∀ k, k < M → 0 ≤ f k) → sm f 0 M = 0 := by
        intro M
        induction M with
        | zero => intro _; rfl
        | succ M ih => intro h; simp only [sm]; rw [ih (fun k hk => h k (by omega))]; have := h M (by omega); omega
      rw [this N (fun k hk => (hf k hk).1)]
      exact hs0)
    clear hRG hf CT
    go_wp2_with (go_at_call 14; refine ((CR.out) _ (R0.out).bel).mono ?_; rintro e w' ⟨rfl, hw⟩; subst w')
    go_loopw [6, 7] (fun l hh wr => ∃ L Hh : Int, l = .int .i64 L ∧ hh = .int .i64 Hh ∧ wr = w1 ∧ 0 ≤ L ∧ L < Hh ∧ Hh ≤ 1125899906842625 ∧ Hid (LvI f N s L Hh)) (fun l hh _ => (intOf hh - intOf l).toNat)
    case atStart => exact ⟨0, _, by go_num, by go_num, rfl, by omega, by omega, by omega, HI0⟩
    case round =>
      clear HI0
      obtain ⟨L, Hh, rfl, rfl, rfl, hL0, hL1, hL2, HI⟩ := hrel
      by_cases hd : 1 < Hh - L
      · have hm0 : L < (L + Hh) / 2 := by omega
        have hm1 : (L + Hh) / 2 < Hh := by omega
        have CM := hide ((CT2.out) ((L + Hh) / 2) (by omega) (by omega))
        have hT : tkS f s ((L + Hh) / 2) N = min (s + 1) (sm f ((L + Hh) / 2) N) := rfl
        generalize tkS f s ((L + Hh) / 2) N = T at *
        by_cases hTs : T ≤ s
        · have HI2 : Hid (LvI f N s ((L + Hh) / 2) Hh) := hide (by
            obtain ⟨a, b, c, d, e⟩ := HI.out
            exact ⟨by omega, hm1, c, by omega, e⟩)
          clear HV CT2 hT HI
          go_wp2_with (go_at_call 16; refine (CM.out).mono ?_; rintro e w' ⟨rfl, hw⟩; subst w')
          go_roundw
          case rel => exact ⟨_, _, by go_num, by go_num, by trivial, by omega, by omega, by omega, HI2⟩
          case measure => simp [intOf]; omega
        · have HI2 : Hid (LvI f N s L ((L + Hh) / 2)) := hide (by
            obtain ⟨a, b, c, d, e⟩ := HI.out
            exact ⟨a, hm0, by omega, d, .inr (by omega)⟩)
          clear HV CT2 hT HI
          go_wp2_with (go_at_call 16; refine (CM.out).mono ?_; rintro e w' ⟨rfl, hw⟩; subst w')
          go_roundw
          case rel => exact ⟨_, _, by go_num, by go_num, by trivial, by omega, by omega, by omega, HI2⟩
          case measure => simp [intOf]; omega
      · have hH : Hh = L + 1 := by omega
        subst hH
        have HU := hide (lvI_up HI.out (fun k hk => ((HF.out) k hk).2))
        have hsl := (HI.out).2.2.2.1
        have CM := hide ((CT2.out) L hL0 (by omega))
        have hT : tkS f s L N = sm f L N := by unfold tkS; omega
        rw [hT] at CM
        have hsm0 := sm_nonneg hL0 N (fun k hk => ((HF.out) k hk).1)
        generalize sm f L N = S at *
        obtain ⟨r, hr⟩ : ∃ r, r = s - S := ⟨_, rfl⟩
        rw [← hr] at HU
        have hr0 : 0 ≤ r := by omega
        have hr1 : r ≤ s := by omega
        have HR := hide hr
        have HLB := hide (fun k => lf_bd f L r hr0 k)
        have R1 : Hid (RwS w wr B N (gM f L r 0)) := hide ((R0.out).ext (fun k _ => by unfold gM; simp))
        clear HI CT2 hT R0
        go_upto_region 12 with (go_at_call 16; refine (CM.out).mono ?_; rintro e w' ⟨rfl, hw⟩; subst w')
        rw [← hr]
        clear hr CM
        go_wp2_with fail
        go_loopw [9, 10] (fun l i wx => ∃ (k : Nat) (lk : Int), k ≤ N ∧ i = .int .i64 (k : Int) ∧ l = .int .i64 lk ∧ Hid (lk = lf f L r k) ∧ 0 ≤ lk ∧ lk ≤ s ∧ Hid (RwS w wx B N (gM f L r k))) (fun _ i _ => N - (intOf i).toNat)
        case atStart => exact ⟨0, r, Nat.zero_le _, by go_num, by go_num, hide rfl, hr0, hr1, R1⟩
        case round =>
          clear R1
          obtain ⟨k, lk, hk, rfl, rfl, HLk, hlk0, hlk1, ST⟩ := hrel
          by_cases hkl : k < N
          · have hi : (k : Int) < (N : Int) := by omega
            have hn2 : ¬ (k : Int) < 0 := by omega
            have c1 := (ST.out).mr.cell hkl
            have c2 := (ST.out).mr.frozen
            obtain ⟨b, off, rfl, hb, hc0⟩ := (H.out).at2 hkl
            have hc := ((ST.out).bel.cell (p := ⟨b, off + k, none⟩) hb).trans hc0
            have hne : b ≠ B := by have := (ST.out).hG; omega
            have hne2 : B ≠ b := fun h => hne h.symm
            clear hc0 hb
            have hx := (HF.out) k hkl
            have hE : oA f L r k = if L < f k ∧ 0 < lk then L + 1 else min (f k) L := by rw [HLk.out]; rfl
            have hL2 : lf f L r (k + 1) = if L < f k ∧ 0 < lk then lk - 1 else lk := by rw [HLk.out]; rfl
            have HG1 := hide (fun X x (h : RwS w X B N (gM f L r k)) (e : x = oA f L r k) => ((h.put k x).ext (fun j _ => gM_succ f L r x k j e)))
            have HG2 := hide (fun X y x (h : RwS w X B N (gM f L r k)) (e : x = oA f L r k) => (((h.put k y).put k x).ext (fun j _ => (upd_upd _ k y x j).trans (gM_succ f L r x k j e))))
            generalize oA f L r k = O at *
            generalize f k = x at *
            by_cases hxL : L < x ∧ 0 < lk
            · obtain ⟨hx1, hx2⟩ := hxL
              rw [if_pos ⟨hx1, hx2⟩] at hE hL2
              have HG3 := hide ((HG2.out) wr (min x L) (L + 1) ST.out hE.symm)
              have HL3 := hide hL2.symm
              have e1 : min x L = L := by omega
              rw [e1] at HG3
              clear HG1 HG2 HLk hE hL2 HU HLB HF
              go_wp2_with fail
              go_roundw
              case rel => exact ⟨k + 1, _, by omega, by go_num, by go_num, HL3, by omega, by omega, HG3⟩
              case measure => simp [intOf]; omega
            · rw [if_neg hxL] at hE hL2
              have HG3 := hide ((HG1.out) wr (min x L) ST.out hE.symm)
              have HL3 := hide hL2.symm
              clear HG1 HG2 HLk hE hL2 HU HLB HF
              by_cases hx1 : L < x
              · have hx2 : ¬ 0 < lk := fun h => hxL ⟨hx1, h⟩
                clear hxL
                go_wp2_with fail
                go_roundw
                case rel => exact ⟨k + 1, _, by omega, by go_num, by go_num, HL3, by omega, by omega, HG3⟩
                case measure => simp [intOf]; omega
              · clear hxL
                go_wp2_with fail
                go_roundw
                case rel => exact ⟨k + 1, _, by omega, by go_num, by go_num, HL3, by omega, by omega, HG3⟩
                case measure => simp [intOf]; omega
          · have hi : ¬ (k : Int) < (N : Int) := by omega
            have HX : Hid (RwS w wr B N (oA f L r)) := hide ((ST.out).ext (fun j hj => by unfold gM; rw [if_pos (by omega)]))
            go_wp2_with fail
            go_ret
            exact ⟨B, rfl, _, HX.out, .inl ⟨HV.out, HU.out⟩⟩

end Go.Proofs.Yteepknanofjnmaa
