/- Texts that this proof stands on, put together. -/
import Derived.Test.YtaonlpjfbajlcaaG2
import Derived.Test.YtaonlpjfbajlcaaRMulDiv2
import Derived.Laws.AppendOwnNone
import Derived.Test.YtaonlpjfbajlcaaShare4
import Derived.Test.YtaonlpjfbajlcaaWnt1
import Derived.Test.YtaonlpjfbajlcaaG3

namespace Go.Proofs.Ytaonlpjfbajlcaa
open Go.RowKit

/-- The first are good, and lengths. -/
def rt26 (l : List SzD) : Nat → Bool
  | 0 => true
  | k + 1 => rt26 l k && (goodS (l.getD k noSz) && isLen (l.getD k noSz).base)

theorem rt26_not {l : List SzD} {k : Nat} : ∀ {N : Nat}, k < N → (goodS (l.getD k noSz) && isLen (l.getD k noSz).base) = false → rt26 l N = false
  | 0, hk, _ => absurd hk (Nat.not_lt_zero _)
  | N + 1, hk, h => by
    simp only [rt26]
    by_cases e : k = N
    · subst e; rw [h]; simp
    · rw [rt26_not (by omega) h]; rfl

theorem rt26_at {l : List SzD} : ∀ {N : Nat}, rt26 l N = true → ∀ k, k < N → goodS (l.getD k noSz) = true ∧ isLen (l.getD k noSz).base = true
  | 0, _, k, hk => absurd hk (Nat.not_lt_zero _)
  | N + 1, h, k, hk => by
    simp only [rt26, Bool.and_eq_true] at h
    by_cases e : k = N
    · subst e; exact h.2
    · exact rt26_at h.1 k (by omega)

def rgF (l : List SzD) (space : Int) : Bool := rt26 l l.length && isSz space

set_option maxRecDepth 100000 in
set_option maxHeartbeats 4000000 in
theorem rright26_any (v : Value) (l : List SzD) (space : Int) (w : World) (h : SzL w v l) (hN : l.length ≤ 1000000) : Calls Try.prog 22 #[v, .int .i64 space] w fun e w' => e = .returned (.bool (rgF l space)) ∧ Below w.heap.size w w' := by
  have ST0 := hide (MxS.start h)
  obtain ⟨ao, cap, rfl⟩ := h.slice
  have CR := hide (fun a b c q e f g W (hh : MxS w W (.slice ao l.length cap) l) => (rgood22_any ⟨a, b, c, q, e, f, g⟩ W).mono fun _ _ hx => And.intro hx.1 (hh.next hx.2))
  have CI := hide (fun n W => ris_any n W)
  have HR : Hid (rgF l space = (rt26 l l.length && isSz space)) := hide rfl
  have HTN := hide (fun k (hk : k < l.length) hh => rt26_not (l := l) hk hh)
  have HSZ := hide (isSz_iff space)
  generalize rgF l space = R at *
  obtain ⟨N, hN0⟩ : ∃ N, N = l.length := ⟨_, rfl⟩
  rw [← hN0] at ST0 CR HR HTN hN ⊢
  have HNL := hide hN0
  unfold szC at CR
  simp only at CR
  clear hN0 h
  go_enter Try.func22, Try.ntmps22
  go_wp2_with fail
  go_loopw [5] (fun i wr => ∃ k : Nat, k ≤ N ∧ i = .int .i64 (k : Int) ∧ Hid (rt26 l k = true) ∧ Hid (MxS w wr (.slice ao N cap) l)) (fun i _ => N - (intOf i).toNat)
  case atStart => exact ⟨0, Nat.zero_le _, by go_num, hide rfl, ST0⟩
  case round =>
    clear ST0
    obtain ⟨k, hk, rfl, HP, ST⟩ := hrel
    by_cases hkl : k < N
    · have hi : (k : Int) < (N : Int) := by omega
      have hn2 : ¬ (k : Int) < 0 := by omega
      have hkl2 : k < l.length := by rw [← HNL.out]; exact hkl
      obtain ⟨b, off, rfl, hlt, x0, x1, x2, x3, x4, x5, x6⟩ := (ST.out).l.at hkl2
      have HTK := hide ((HTN.out) k hkl)
      have HTS : Hid (rt26 l (k + 1) = (rt26 l k && (goodS (l.getD k noSz) && isLen (l.getD k noSz).base))) := hide rfl
      have H5 := hide (fun W (hh : MxS w W (.slice (some ⟨b, off, none⟩) N cap) l) => (show W.cell? ⟨b, off + k * 7 + 5, none⟩ = some (.int .i64 (l.getD k noSz).base) from by
        obtain ⟨b', off', e, _, _, _, _, _, _, z5, _⟩ := hh.l.at hkl2
        obtain ⟨rfl, rfl⟩ : b = b' ∧ off = off' := by simpa using e
        exact z5))
      clear HTN
      generalize l.getD k noSz = x at *
      obtain ⟨a1, a2, a3, q, a5, a6, a7⟩ := x
      have C1 := hide (fun W h => (CR.out) a1 a2 a3 q a5 a6 a7 W h)
      have C2 := hide (fun W => (CI.out) a6 W)
      simp only at x0 x1 x2 x3 x4 x5 x6 HTK HTS H5
      generalize goodS ⟨a1, a2, a3, q, a5, a6, a7⟩ = OB at HTK HTS C1
      generalize isLen a6 = OZ at HTK HTS C2
      clear CR CI
      cases OB
      · have HV : Hid (R = false) := hide (by rw [HR.out, (HTK.out) rfl]; rfl)
        clear HR HTK HTS HP
        go_wp2_with fail
        refine Calls.mono ((C1.out) _ ST.out) ?_
        rintro ee w3 ⟨rfl, hs⟩
        have ST3 := hide hs
        clear hs ST C1 x0 x1 x2 x3 x4 x5 x6
        go_wp2_with fail
        go_ret
        exact ⟨by rw [HV.out] <;> rfl, (ST3.out).bel⟩
      · go_wp2_with fail
        refine Calls.mono ((C1.out) _ ST.out) ?_
        rintro ee w3 ⟨rfl, hs⟩
        have ST3 := hide hs
        have z5 := (H5.out) _ hs
        clear hs ST C1 x0 x1 x2 x3 x4 x5 x6 H5
        cases OZ
        · have HV : Hid (R = false) := hide (by rw [HR.out, (HTK.out) rfl]; rfl)
          clear HR HTK HTS HP
          go_wp2_with (go_at_call 51; refine ((C2.out) _).mono ?_; rintro e w' ⟨rfl, hw⟩; subst w')
          go_ret
          exact ⟨by rw [HV.out] <;> rfl, (ST3.out).bel⟩
        · have HP3 : Hid (rt26 l (k + 1) = true) := hide (by rw [HTS.out, HP.out]; rfl)
          clear HTK HTS HP
          go_wp2_with (go_at_call 51; refine ((C2.out) _).mono ?_; rintro e w' ⟨rfl, hw⟩; subst w')
          go_roundw
          case rel => exact ⟨k + 1, by omega, by go_num, HP3, ST3⟩
          case measure => simp [intOf]; omega
    · have hi : ¬ (k : Int) < (N : Int) := by omega
      have hp := HP.out
      rw [show k = N by omega] at hp
      have HV1 : Hid (R = (decide (0 ≤ space) && decide (space ≤ 68719476736))) := hide (by rw [HR.out, hp, HSZ.out]; rfl)
      clear hp HP HR HTN CR
      by_cases h1 : 0 ≤ space
      · by_cases h2 : space ≤ 68719476736
        · have HV : Hid (R = true) := hide (by rw [HV1.out]; simp; omega)
          clear HV1
          go_wp2_with fail
          go_ret
          exact ⟨by rw [HV.out] <;> rfl, (ST.out).bel⟩
        · have HV : Hid (R = false) := hide (by rw [HV1.out]; simp; omega)
          clear HV1
          go_wp2_with fail
          go_ret
          exact ⟨by rw [HV.out] <;> rfl, (ST.out).bel⟩
      · have HV : Hid (R = false) := hide (by rw [HV1.out]; simp; omega)
        clear HV1
        go_wp2_with fail
        go_ret
        exact ⟨by rw [HV.out] <;> rfl, (ST.out).bel⟩

/-- A product by a number, rounded up. -/
def upV (a b c : Int) : Int := 0 - (mdV (0 - a) b c).1

theorem mdV_bd (a b c : Int) : -9223372036854775808 ≤ (mdV a b c).1 ∧ (mdV a b c).1 ≤ 9223372036854775807 := by
  unfold mdV fitV
  repeat' split
  all_goals (simp only; omega)

set_option maxRecDepth 100000 in
set_option maxHeartbeats 2000000 in
theorem rup26_any (a b c : Int) (w : World) (a1 : 0 ≤ a) (a2 : a ≤ 1125899906842624) (b1 : 0 ≤ b) (b2 : b ≤ 9223372036854775807) (c1 : 0 ≤ c) (c2 : c ≤ 9223372036854775807) (hm : -9223372036854775807 ≤ (mdV (0 - a) b c).1) :
    Calls Try.prog 25 #[.int .i64 a, .int .i64 b, .int .i64 c] w fun e w' => e = .returned (.int .i64 (upV a b c)) ∧ Below w.heap.size w w' := by
  have CM := hide (fun W => rmuldiv_any (0 - a) b c W (by omega) (by omega) (by omega) b2 (by omega) c2)
  have hbd := mdV_bd (0 - a) b c
  have HU : Hid (upV a b c = 0 - (mdV (0 - a) b c).1) := hide rfl
  have he : (0 : Int) - a = -a := by omega
  generalize hM : mdV (0 - a) b c = M at *
  obtain ⟨m1, m2⟩ := M
  simp only at hbd hm HU CM
  rw [he] at CM
  clear hM he
  go_enter Try.func25, Try.ntmps25
  go_wp2_with fail
  refine ((CM.out) _).mono ?_
  rintro e w1 ⟨rfl, hb⟩
  have HB := hide hb
  have hs : (0 : Int) - m1 = -m1 := by omega
  rw [hs] at HU
  clear hb hs CM
  go_wp2_with fail
  go_ret
  exact ⟨by rw [HU.out] <;> rfl, HB.out⟩

end Go.Proofs.Ytaonlpjfbajlcaa

namespace Go.Proofs.Ytaonlpjfbajlcaa
open Go.RowKit

theorem info_boolF : (Try.prog.info? 4).map (fun i => (i.zero, i.size, i.bytes)) = some (some (.bool false), 1, 1) := by kernel_rfl

theorem made_bools (N : Nat) (hN : N ≤ 1000000) (w : World) : (Instr.makeSlice 50 (.int .i64 (N : Int)) (.int .i64 (N : Int))).run Try.prog w = .ok (.slice (some ⟨w.heap.size, 0, none⟩) N N) (w.alloc (.cells (madeCells #[.bool false] N) 4)) :=
  run_make_row' (P := Try.prog) 50 4 (.bool false) 1 Try.underlying50 info_boolF rfl .i64 .i64 N (by omega) (by omega) w

def blC (st : Nat → Bool) (N : Nat) : List Value := (List.range N).map (fun i => .bool (st i))

theorem blC_len (st : Nat → Bool) (N : Nat) : (blC st N).length = N := by simp [blC]

theorem blC_get (st : Nat → Bool) (N k : Nat) (hk : k < N) : (blC st N)[k]? = some (.bool (st k)) := by simp [blC, hk]

theorem blC_ext {st st' : Nat → Bool} {N : Nat} (h : ∀ k, k < N → st k = st' k) : blC st N = blC st' N := by
  unfold blC
  apply List.map_congr_left
  intro a ha
  rw [h a (List.mem_range.1 ha)]

theorem blC_set (st : Nat → Bool) (N k : Nat) (y : Bool) : (blC st N).set k (.bool y) = blC (fun i => if i = k then y else st i) N := by
  apply List.ext_getElem
  · simp [blC]
  · intro i h1 h2
    simp only [blC, List.getElem_set, List.getElem_map, List.getElem_range]
    by_cases e : k = i
    · subst e; simp
    · rw [if_neg e, if_neg (fun h => e h.symm)]

/-- A row of bools of the call's own can be read. -/
theorem own_arB {w : World} {base N : Nat} {v : Value} {st : Nat → Bool} (h : w.ownsRow base 4 1 v N (blC st N)) : ∃ ao cap, v = .slice ao N cap ∧ ArB w ao N st := by
  rcases h.2 with ⟨hv, hn⟩ | ⟨g, cap, cur, hv, hb, hg, hnc, hcm, hcs, htake⟩
  · subst hn
    exact ⟨none, 0, hv, .inl rfl⟩
  · refine ⟨_, cap, hv, .inr ⟨g, 0, rfl, (Array.getElem?_eq_some_iff.1 hg).1, fun i hi => ?_⟩⟩
    have h' := h
    rw [hv] at h'
    rw [Nat.zero_add, h'.cellAt i (by omega), blC_get st N i hi]

/-- What a flexible track gets of what is left. -/
def prt (l : List SzD) (st : Nat → Bool) (space : Int) (N i : Nat) : Int := lf26 l st space N * (l.getD i noSz).fr / max (sm26 l st N) 1000

def nxS (l : List SzD) (space : Int) (N : Nat) (st : Nat → Bool) (i : Nat) : Bool := st i || (flx l i && decide (prt l st space N i < (l.getD i noSz).base))

/-- Who is stiff after so many turns. -/
def stF (l : List SzD) (space : Int) (N : Nat) : Nat → Nat → Bool
  | 0 => fun _ => false
  | t + 1 => nxS l space N (stF l space N t)

/-- Within a turn. -/
def mdS (l : List SzD) (space : Int) (N : Nat) (st : Nat → Bool) (k i : Nat) : Bool := if i < k then nxS l space N st i else st i

theorem mdS_zero (l : List SzD) (space : Int) (N : Nat) (st : Nat → Bool) (i : Nat) : mdS l space N st 0 i = st i := by unfold mdS; simp

theorem mdS_all (l : List SzD) (space : Int) (N : Nat) (st : Nat → Bool) (i : Nat) (hi : i < N) : mdS l space N st N i = nxS l space N st i := by unfold mdS; rw [if_pos hi]

theorem mdS_yes {l : List SzD} {space : Int} {N : Nat} {st : Nat → Bool} {k : Nat} (h : (flx l k && decide (prt l st space N k < (l.getD k noSz).base)) = true) (i : Nat) : (if i = k then true else mdS l space N st k i) = mdS l space N st (k + 1) i := by
  by_cases e : i = k
  · subst e
    rw [if_pos rfl]
    unfold mdS nxS
    rw [if_pos (by omega), h]
    simp
  · rw [if_neg e]
    unfold mdS
    by_cases h2 : i < k
    · simp only [if_pos h2, if_pos (show i < k + 1 by omega)]
    · simp only [if_neg h2, if_neg (show ¬ i < k + 1 by omega)]

theorem mdS_no {l : List SzD} {space : Int} {N : Nat} {st : Nat → Bool} {k : Nat} (h : (flx l k && decide (prt l st space N k < (l.getD k noSz).base)) = false) (i : Nat) : mdS l space N st k i = mdS l space N st (k + 1) i := by
  unfold mdS
  by_cases e : i = k
  · subst e
    rw [if_neg (by omega), if_pos (by omega)]
    unfold nxS
    rw [h]
    simp
  · by_cases h2 : i < k
    · simp only [if_pos h2, if_pos (show i < k + 1 by omega)]
    · simp only [if_neg h2, if_neg (show ¬ i < k + 1 by omega)]

theorem prt_mdV {l : List SzD} {st : Nat → Bool} {space : Int} {N i : Nat} (h0 : 0 ≤ lf26 l st space N) (h1 : lf26 l st space N ≤ 68719476736) (hf : 0 ≤ (l.getD i noSz).fr ∧ (l.getD i noSz).fr ≤ 1073741824) : mdV (lf26 l st space N) (l.getD i noSz).fr (max (sm26 l st N) 1000) = (prt l st space N i, 0) ∧ 0 ≤ prt l st space N i := by
  have hp : 0 ≤ lf26 l st space N * (l.getD i noSz).fr := Int.mul_nonneg h0 hf.1
  have hq : lf26 l st space N * (l.getD i noSz).fr ≤ 68719476736 * 1073741824 := Int.mul_le_mul h1 hf.2 hf.1 (by omega)
  have hd : lf26 l st space N * (l.getD i noSz).fr / max (sm26 l st N) 1000 ≤ 9223372036854775807 := by
    have h2 : lf26 l st space N * (l.getD i noSz).fr / max (sm26 l st N) 1000 ≤ 68719476736 * 1073741824 / 1000 := by
      apply Int.le_trans (Int.ediv_le_ediv (c := max (sm26 l st N) 1000) (by omega) hq)
      apply Int.le_ediv_of_mul_le (by omega)
      have h3 := Int.ediv_mul_le (68719476736 * 1073741824 : Int) (b := max (sm26 l st N) 1000) (by omega)
      have h4 : 0 ≤ (68719476736 * 1073741824 : Int) / max (sm26 l st N) 1000 := Int.ediv_nonneg (by omega) (by omega)
      have h5 : (68719476736 * 1073741824 : Int) / max (sm26 l st N) 1000 * 1000 ≤ (68719476736 * 1073741824 : Int) / max (sm26 l st N) 1000 * max (sm26 l st N) 1000 := Int.mul_le_mul_of_nonneg_left (by omega) h4
      omega
    omega
  exact ⟨mdV_nat h0 hf.1 (by omega) hd, Int.ediv_nonneg hp (by omega)⟩

end Go.Proofs.Ytaonlpjfbajlcaa

namespace Go.Proofs.Ytaonlpjfbajlcaa
open Go.RowKit

/-- What stands while it is found who is stiff. -/
structure SfS (w W : World) (v : Value) (l : List SzD) (u : Value) (N : Nat) (st : Nat → Bool) : Prop where
  s : SzL w v l
  bel : Below w.heap.size w W
  own : W.ownsRow w.heap.size 4 1 u N (blC st N)

theorem SfS.l {w W : World} {v u : Value} {l : List SzD} {N : Nat} {st : Nat → Bool} (h : SfS w W v l u N st) : SzL W v l := h.s.below h.bel

theorem SfS.next {w W W' : World} {v u : Value} {l : List SzD} {N : Nat} {st : Nat → Bool} (h : SfS w W v l u N st) (hb : Below W.heap.size W W') : SfS w W' v l u N st := ⟨h.s, h.bel.trans (hb.mono h.bel.size), own_below22 h.own hb⟩

theorem SfS.ext {w W : World} {v u : Value} {l : List SzD} {N : Nat} {st st' : Nat → Bool} (h : SfS w W v l u N st) (e : ∀ k, k < N → st k = st' k) : SfS w W v l u N st' := ⟨h.s, h.bel, by rw [← blC_ext e]; exact h.own⟩

theorem SfS.put {w W : World} {v : Value} {g c : Nat} {l : List SzD} {N : Nat} {st : Nat → Bool} (h : SfS w W v l (.slice (some ⟨g, 0, none⟩) N c) N st) (k : Nat) (y : Bool) : SfS w (W.setCell ⟨g, k, none⟩ (.bool y)) v l (.slice (some ⟨g, 0, none⟩) N c) N (fun i => if i = k then y else st i) := by
  have hg : w.heap.size ≤ g := (own_lt22 h.own g rfl).1
  refine ⟨h.s, h.bel.setCell (p := ⟨g, k, none⟩) hg _, ?_⟩
  have h1 := (h.own.stored k (.bool y)).1
  rw [blC_set] at h1
  exact h1

theorem sfS_start {w : World} {v : Value} {l : List SzD} (N : Nat) (hN : N ≤ 1000000) (h : SzL w v l) : SfS w (w.alloc (.cells (madeCells #[.bool false] N) 4)) v l (.slice (some ⟨w.heap.size, 0, none⟩) N N) N (fun _ => false) := by
  refine ⟨h, (Below.refl _ w).alloc (Nat.le_refl _) _, ?_⟩
  have h := World.ownsRow_lit (base := w.heap.size) (e := 4) (size := 1) w (madeCells #[.bool false] N) N (Nat.le_refl _) (by unfold maxLen; omega) (by rw [size_madeCells]; simp)
  rw [toList_madeCells_one] at h
  have e : List.replicate N (Value.bool false) = blC (fun _ => false) N := by
    apply List.ext_getElem
    · simp [blC]
    · intro i h1 h2; simp [blC]
  rw [e] at h
  exact h

theorem wpList_app_bools {w : World} {ops : Array Oper} {rest : List Oper} {o : Oper} {a : Act} {Q : Exit → Act → World → Prop} (hgd : o.guard = none) (sl x : Operand)
    (ho : o.op = .call { callee := .builtin .append, args := #[sl, x], argTypes := #[ 50, 50 ] })
    (base : Nat) (v : Value) (n : Nat) (xs : List Value) (hs : a.eval sl = v) (hown : w.ownsRow base 4 1 v n xs) (bs : Nat) (u : Value) (N : Nat) (st : Nat → Bool) (hsrc : w.ownsRow bs 4 1 u N (blC st N)) (hx : a.eval x = u)
    (hb : n + N ≤ 10000000) (hbase : base ≤ w.heap.size)
    (h : ∀ v' w', w'.ownsRow base 4 1 v' (n + N) (xs ++ blC st N) → w.grownBy w' v.ownBlock → wpList Try.prog ops Q rest (a.put o.dst v') w') : wpList Try.prog ops Q (o :: rest) a w := by
  obtain ⟨i0, hi, hz0, hz1, hz2⟩ := info_parts info_boolF
  rcases hsrc.2 with ⟨hv, hn⟩ | ⟨g, cap, cur, hv, hgb, hg, hnc, hcm, hcs, htake⟩
  · subst hn
    rw [hv] at hx
    refine wpList_append_own_none hgd sl x 50 ho base 4 i0 1 Try.underlying50 hi v n xs hs hown hx (h v w ?_ ⟨rfl, rfl, rfl, Nat.le_refl _, fun _ _ _ => rfl⟩)
    have : blC st 0 = [] := rfl
    rw [this, List.append_nil, Nat.add_zero]; exact hown
  · rw [hv] at hx hsrc
    exact wpList_append_own w hgd sl x 50 ho base 4 i0 _ 1 1 Try.underlying50 hi hz0 hz1 hz2 rfl (by decide) v n xs hs hown ⟨g, 0, none⟩ N cap (blC st N) hx (by rw [blC_len]; omega) (fun j u' hu => by
      have hj : j < N := by have := (List.getElem?_eq_some_iff.1 hu).1; rw [blC_len] at this; exact this
      have e : (⟨g, 0, none⟩ : Addr).add j = ⟨g, j, none⟩ := by unfold Addr.add; split <;> simp_all
      rw [e, hsrc.cellAt j (by omega)]
      exact hu) (by
      intro u' hu
      simp only [blC, List.mem_map] at hu
      obtain ⟨i, _, rfl⟩ := hu
      rfl) (by unfold maxLen; omega) (by omega) hbase (fun v' w' h1 h2 _ => h v' w' h1 h2)

set_option maxRecDepth 100000 in
set_option maxHeartbeats 8000000 in
theorem rstiff26_any (v : Value) (l : List SzD) (space : Int) (w : World) (h : SzL w v l) (hN : l.length ≤ 100000) (h0 : 0 ≤ space) (h1 : space ≤ 68719476736) (hb : ∀ k, k < l.length → 0 ≤ (l.getD k noSz).base ∧ (l.getD k noSz).base ≤ 1125899906842623) (hf : ∀ k, k < l.length → 0 ≤ (l.getD k noSz).fr ∧ (l.getD k noSz).fr ≤ 1073741824) :
    Calls Try.prog 23 #[v, .int .i64 space] w fun e w' => ∃ ao cap, e = .returned (.slice ao l.length cap) ∧ ArB w' ao l.length (stF l space l.length (l.length + 1)) ∧ Below w.heap.size w w' := by
  have ST0 := hide (sfS_start l.length (by omega) h)
  have hmk := made_bools l.length (by omega)
  obtain ⟨ao, cap, rfl⟩ := h.slice
  have CS := hide (fun u c st W (hh : SfS w W (.slice ao l.length cap) l (.slice u l.length c) l.length st) (ha : ArB W u l.length st) => (rsum26_any (.slice ao l.length cap) l u c st W hh.l ha (by omega) hf).mono fun _ _ hx => And.intro hx.1 (hh.next hx.2))
  have CL := hide (fun u c st W (hh : SfS w W (.slice ao l.length cap) l (.slice u l.length c) l.length st) (ha : ArB W u l.length st) => (rleft26_any (.slice ao l.length cap) l u c st space W hh.l ha (by omega) h0 (by omega) hb).mono fun _ _ hx => And.intro hx.1 (hh.next hx.2))
  have CF := hide (fun a b c q e f g u st W (hh : SfS w W (.slice ao l.length cap) l u l.length st) => (rflex26_any a b c e f g q W).mono fun _ _ hx => And.intro hx.1 (hh.next hx.2))
  have HSB := hide (fun st => sm26_bd (st := st) hf l.length (Nat.le_refl _))
  have HLB := hide (fun st => lf26_bd (st := st) h0 (fun k hk => (hb k hk).1) l.length (Nat.le_refl _))
  have HPR := hide (fun st k (hk : k < l.length) => prt_mdV (l := l) (st := st) (space := space) (N := l.length) (i := k) (lf26_bd (st := st) h0 (fun k hk => (hb k hk).1) l.length (Nat.le_refl _)).1 (by have := (lf26_bd (st := st) h0 (fun k hk => (hb k hk).1) l.length (Nat.le_refl _)).2; omega) (hf k hk))
  have HBB := hide hb
  have HFF := hide hf
  obtain ⟨N, hN0⟩ : ∃ N, N = l.length := ⟨_, rfl⟩
  rw [← hN0] at ST0 hmk CS CL CF HSB HLB HPR HBB HFF hN ⊢
  have HNL := hide hN0
  clear h hb hf hN0
  obtain ⟨i0, hinf, hz0, hz1, hz2⟩ := info_parts info_boolF
  go_enter Try.func23, Try.ntmps23
  go_upto_region 2 with fail
  generalize World.alloc w _ = w1 at *
  go_wp2_with fail
  go_loopw [5, 6] (fun o i wr => ∃ t : Nat, t ≤ N + 1 ∧ i = .int .i64 (t : Int) ∧ Hid (SfS w wr (.slice ao N cap) l o N (stF l space N t))) (fun _ i _ => N + 1 - (intOf i).toNat)
  case atStart => exact ⟨0, Nat.zero_le _, by go_num, ST0⟩
  case round =>
    clear ST0 hmk
    obtain ⟨t, ht, rfl, ST⟩ := hrel
    have HT1 : Hid (stF l space N (t + 1) = nxS l space N (stF l space N t)) := hide rfl
    by_cases htN : t ≤ N
    · have hi : (t : Int) ≤ (N : Int) := by omega
      generalize stF l space N t = st at *
      obtain ⟨ua, uc, rfl, har⟩ := own_arB (ST.out).own
      have C1 := hide ((CS.out) ua uc st wr ST.out har)
      have hsb := (HSB.out) st
      have hlb := (HLB.out) st
      have HP := hide (fun k hk => (HPR.out) st k hk)
      clear har
      generalize hnn : sm26 l st N = n at *
      generalize hrr : lf26 l st space N = r at *
      go_wp2_with fail
      refine Calls.mono C1.out ?_
      rintro e w2 ⟨rfl, hs2⟩
      obtain ⟨_, _, e2, har2⟩ := own_arB hs2.own
      obtain ⟨rfl, rfl⟩ : ua = _ ∧ uc = _ := by simpa using e2
      have C2 := hide ((CL.out) _ _ st w2 hs2 har2)
      rw [hrr] at C2
      clear hs2 e2 har2 C1 ST
      go_wp2_with fail
      refine Calls.mono C2.out ?_
      rintro e w3 ⟨rfl, hs3⟩
      have ST3 := hide hs3
      have hnw : w.heap.size ≤ w3.heap.size := hs3.bel.size
      have hlit : (w3.alloc (.cells #[] 4)).ownsRow w.heap.size 4 1 (.slice (some ⟨w3.heap.size, 0, none⟩) 0 0) 0 [] := World.ownsRow_lit (base := w.heap.size) (e := 4) (size := 1) w3 #[] 0 hnw (by unfold maxLen; omega) rfl
      have HLIT := hide hlit
      have HALL := hide (hs3.next ((Below.refl _ w3).alloc (Nat.le_refl _) (.cells #[] 4)))
      clear hs3 hlit C2
      go_wp2_with (at_builtin; refine wpList_app_bools rfl _ _ rfl w.heap.size _ 0 [] rfl HLIT.out w.heap.size _ N st (HALL.out).own rfl (by omega) (by simp; omega) ?_)
      intro vm w7 hown hgrow
      have hbel7 : Below w.heap.size w w7 := (HALL.out).bel.grown hgrow (HALL.out).bel.size (fun q hq => by
        obtain rfl : w3.heap.size = q := by simpa [Value.ownBlock] using hq
        exact hnw)
      have hst7 : SfS w w7 (.slice ao N cap) l vm N st := ⟨(HALL.out).s, hbel7, hown⟩
      obtain ⟨am, cm, rfl, -⟩ := own_arB hown
      have ST7 : Hid (SfS w w7 (.slice ao N cap) l (.slice am N cm) N (mdS l space N st 0)) := hide (hst7.ext (fun k _ => (mdS_zero l space N st k).symm))
      clear hown hgrow hbel7 hst7 HALL HLIT ST3
      go_wp2_with fail
      go_loopw [11] (fun i wr => ∃ k : Nat, k ≤ N ∧ i = .int .i64 (k : Int) ∧ Hid (SfS w wr (.slice ao N cap) l (.slice am N cm) N (mdS l space N st k))) (fun i _ => N - (intOf i).toNat)
      case atStart => exact ⟨0, Nat.zero_le _, by go_num, ST7⟩
      case round =>
        clear ST7
        obtain ⟨k, hk, rfl, ST⟩ := hrel
        by_cases hkl : k < N
        · have hi1 : (k : Int) < (N : Int) := by omega
          have hn2 : ¬ (k : Int) < 0 := by omega
          have hkl2 : k < l.length := by rw [← HNL.out]; exact hkl
          obtain ⟨b, off, rfl, hlt, x0, x1, x2, x3, x4, x5, x6⟩ := (ST.out).l.at hkl2
          obtain ⟨hmd, hp0⟩ := (HP.out) k hkl
          obtain ⟨hf0, hf1⟩ := (HFF.out) k hkl
          have CM := hide (fun W => rmuldiv_any r (l.getD k noSz).fr (max n 1000) W (by omega) (by omega) (by omega) (by omega) (by omega) (by omega))
          rw [hmd] at CM
          simp only at CM
          have HC := hide (fun W (hh : ∃ st, SfS w W (.slice (some ⟨b, off, none⟩) N cap) l (.slice am N cm) N st) => (show W.cell? ⟨b, off + k * 7, none⟩ = some (.int .i64 (l.getD k noSz).mn) ∧ W.cell? ⟨b, off + k * 7 + 1, none⟩ = some (.int .i64 (l.getD k noSz).mx) ∧ W.cell? ⟨b, off + k * 7 + 2, none⟩ = some (.int .i64 (l.getD k noSz).fr) ∧ W.cell? ⟨b, off + k * 7 + 3, none⟩ = some (.bool (l.getD k noSz).fit) ∧ W.cell? ⟨b, off + k * 7 + 4, none⟩ = some (.int .i64 (l.getD k noSz).cap) ∧ W.cell? ⟨b, off + k * 7 + 5, none⟩ = some (.int .i64 (l.getD k noSz).base) ∧ W.cell? ⟨b, off + k * 7 + 6, none⟩ = some (.int .i64 (l.getD k noSz).limit) from by
            obtain ⟨st2, h2⟩ := hh
            obtain ⟨b', off', e, _, z⟩ := h2.l.at hkl2
            obtain ⟨rfl, rfl⟩ : b = b' ∧ off = off' := by simpa using e
            exact z))
          have HY := hide (fun h i => mdS_yes (l := l) (space := space) (N := N) (st := st) (k := k) h i)
          have HNo := hide (fun h i => mdS_no (l := l) (space := space) (N := N) (st := st) (k := k) h i)
          have hfx : flx l k = ((l.getD k noSz).mx == 5) := rfl
          rw [hfx] at HY HNo
          clear hmd HP hfx HPR HLB HSB HFF HBB
          generalize prt l st space N k = pt at *
          generalize hzz : l.getD k noSz = z at HC HY HNo CM hf0 hf1 x0 x1 x2 x3 x4 x5 x6
          clear hzz
          obtain ⟨a1, a2, a3, q, a5, a6, a7⟩ := z
          simp only at HC HY HNo CM hf0 hf1 x0 x1 x2 x3 x4 x5 x6
          have C1 := hide (fun W h => (CF.out) a1 a2 a3 q a5 a6 a7 (.slice am N cm) (mdS l space N st k) W h)
          clear CF
          go_wp2_with (go_at_call 35; refine ((CM.out) _).mono ?_; rintro e w4 ⟨rfl, hb4⟩; have ST4 := hide ((ST.out).next hb4); obtain ⟨y0, y1, y2, y3, y4, y5, y6⟩ := (HC.out) w4 ⟨_, ST4.out⟩; clear hb4)
          refine Calls.mono ((C1.out) _ ST4.out) ?_
          rintro ee w5 ⟨rfl, hs5⟩
          have ST5 := hide hs5
          obtain ⟨z0, z1, z2, z3, z4, z5, z6⟩ := (HC.out) w5 ⟨_, hs5⟩
          clear ST ST4 C1 CM HC x0 x1 x2 x3 x4 x5 x6 y0 y1 y2 y3 y4 y5 y6
          generalize (a2 == 5) = q1 at *
          cases q1
          · have ST6 : Hid (SfS w w5 (.slice (some ⟨b, off, none⟩) N cap) l (.slice am N cm) N (mdS l space N st (k + 1))) := hide (hs5.ext (fun i _ => (HNo.out) rfl i))
            clear hs5 ST5 HY HNo HT1
            go_wp2_with fail
            go_roundw
            case rel => exact ⟨k + 1, by omega, by go_num, ST6⟩
            case measure => simp [intOf]; omega
          · by_cases hlt6 : pt < a6
            · rcases hs5.own.2 with ⟨hv, hn⟩ | ⟨g, gc, cur, hv, hgb, hgg, hnc, hcm, hcs, htake⟩
              · omega
              · obtain ⟨rfl, rfl⟩ : am = some ⟨g, 0, none⟩ ∧ cm = gc := by simpa using hv
                have u0 : w5.cell? ⟨g, k, none⟩ = some (.bool (mdS l space N st k k)) := by rw [hs5.own.cellAt k (by omega)]; exact blC_get _ N k hkl
                have u1 := hs5.own.frozenAt
                have ST6 : Hid (SfS w (w5.setCell ⟨g, k, none⟩ (.bool true)) (.slice (some ⟨b, off, none⟩) N cap) l (.slice (some ⟨g, 0, none⟩) N cm) N (mdS l space N st (k + 1))) := hide ((hs5.put k true).ext (fun i _ => (HY.out) (by simp [hlt6]) i))
                clear hs5 ST5 HY HNo HT1 hv hgg hcs htake hnc hcm
                go_wp2_with fail
                go_roundw
                case rel => exact ⟨k + 1, by omega, by go_num, ST6⟩
                case measure => simp [intOf]; omega
            · have ST6 : Hid (SfS w w5 (.slice (some ⟨b, off, none⟩) N cap) l (.slice am N cm) N (mdS l space N st (k + 1))) := hide (hs5.ext (fun i _ => (HNo.out) (by simp [hlt6]) i))
              clear hs5 ST5 HY HNo HT1
              go_wp2_with fail
              go_roundw
              case rel => exact ⟨k + 1, by omega, by go_num, ST6⟩
              case measure => simp [intOf]; omega
        · have hi1 : ¬ (k : Int) < (N : Int) := by omega
          have ST8 : Hid (SfS w wr (.slice ao N cap) l (.slice am N cm) N (stF l space N (t + 1))) := hide ((ST.out).ext (fun j hj => by rw [HT1.out, show k = N by omega]; exact mdS_all l space N st j hj))
          clear ST HT1
          go_wp2_with fail
          go_roundw
          case rel => exact ⟨t + 1, by omega, by go_num, ST8⟩
          case measure => simp [intOf]; omega
    · have hi : ¬ (t : Int) ≤ (N : Int) := by omega
      obtain ⟨ua, uc, rfl, har⟩ := own_arB (ST.out).own
      have HA := hide har
      clear har HT1 HSB HLB HPR
      go_wp2_with fail
      go_ret
      exact ⟨ua, ⟨uc, rfl⟩, by rw [← show t = N + 1 by omega]; exact HA.out, (ST.out).bel⟩

end Go.Proofs.Ytaonlpjfbajlcaa

namespace Go.Proofs.Ytaonlpjfbajlcaa
open Go.RowKit

theorem mdV_low {a c : Int} (h0 : 0 ≤ a) (h1 : a ≤ 1125899906842624) (hc : 1 ≤ c) : -9223372036854775807 ≤ (mdV (0 - a) 1000 c).1 ∧ (mdV (0 - a) 1000 c).1 ≤ 0 ∧ -(a * 1000) ≤ (mdV (0 - a) 1000 c).1 := by
  have e : (0 - a) * 1000 = -(a * 1000) := by omega
  have hd : ((0 - a) * 1000).fdiv c = (0 - a) * 1000 / c := Int.fdiv_eq_ediv_of_nonneg _ (by omega)
  have hge : -(a * 1000) ≤ (0 - a) * 1000 / c := by
    apply Int.le_ediv_of_mul_le (by omega)
    rw [e, Int.neg_mul]
    have : a * 1000 * 1 ≤ a * 1000 * c := Int.mul_le_mul_of_nonneg_left hc (by omega)
    omega
  have hle : (0 - a) * 1000 / c ≤ 0 := by
    have := Int.ediv_le_ediv (c := c) (by omega) (show (0 - a) * 1000 ≤ 0 by omega)
    rw [Int.zero_ediv] at this
    exact this
  unfold mdV
  rw [if_neg (by omega), hd]
  rw [fitV_in (by omega) (by omega)]
  exact ⟨by show -9223372036854775807 ≤ (0 - a) * 1000 / c; omega, hle, hge⟩

/-- Whether the document's own Unit counts, and what it tells. -/
def unS (l : List SzD) (space : Int) : Nat → Bool := stF l space l.length (l.length + 1)

def unV (l : List SzD) (space : Int) : Int :=
  if rgF l space = true ∧ is26 l (unS l space) l.length = true then upV (lf26 l (unS l space) space l.length) 1000 (max (sm26 l (unS l space) l.length) 1000) else 0

theorem rgF_facts {l : List SzD} {space : Int} (h : rgF l space = true) : (0 ≤ space ∧ space ≤ 68719476736) ∧ (∀ k, k < l.length → 0 ≤ (l.getD k noSz).base ∧ (l.getD k noSz).base ≤ 68719476736) ∧ (∀ k, k < l.length → 0 ≤ (l.getD k noSz).fr ∧ (l.getD k noSz).fr ≤ 1073741824) ∧ ∀ k, k < l.length → goodS (l.getD k noSz) = true := by
  unfold rgF at h
  rw [Bool.and_eq_true] at h
  refine ⟨isSz_bd h.2, fun k hk => ?_, fun k hk => good_fr (rt26_at h.1 k hk).1, fun k hk => (rt26_at h.1 k hk).1⟩
  obtain ⟨a, b⟩ := rt26_at h.1 k hk
  have := good_base a
  unfold isLen at b
  simp only [decide_eq_true_eq] at b
  omega

set_option maxRecDepth 100000 in
set_option maxHeartbeats 8000000 in
theorem runit26_any (v : Value) (l : List SzD) (space : Int) (w : World) (h : SzL w v l) (hN : l.length ≤ 100000) : Calls Try.prog 8 #[v, .int .i64 space] w fun e w' => e = .returned (.int .i64 (unV l space)) ∧ Below w.heap.size w w' := by
  have CR := hide (rright26_any v l space w h (by omega))
  have HS := hide h
  have HV : Hid (unV l space = if rgF l space = true ∧ is26 l (unS l space) l.length = true then upV (lf26 l (unS l space) space l.length) 1000 (max (sm26 l (unS l space) l.length) 1000) else 0) := hide rfl
  generalize unV l space = R at *
  generalize hG : rgF l space = G at *
  cases G
  · have HV2 : Hid (R = 0) := hide (by rw [HV.out, if_neg (fun hh => by have := hh.1; exact absurd this (by decide))])
    clear hG HV h
    go_enter Try.func8, Try.ntmps8
    go_wp2_with fail
    refine Calls.mono CR.out ?_
    rintro e w1 ⟨rfl, hb⟩
    have HB := hide hb
    clear hb
    go_wp2_with fail
    go_ret
    exact ⟨by rw [HV2.out] <;> rfl, HB.out⟩
  · obtain ⟨⟨h0, h1⟩, hb, hf, -⟩ := rgF_facts hG
    have CST := hide (fun W (hbb : Below w.heap.size w W) => rstiff26_any v l space W (h.below hbb) hN h0 h1 (fun k hk => by have := hb k hk; omega) hf)
    have CSU := hide (fun ao ca W (hbb : Below w.heap.size w W) (ha : ArB W ao l.length (unS l space)) => rsum26_any v l ao ca (unS l space) W (h.below hbb) ha (by omega) hf)
    have CLE := hide (fun ao ca W (hbb : Below w.heap.size w W) (ha : ArB W ao l.length (unS l space)) => rleft26_any v l ao ca (unS l space) space W (h.below hbb) ha (by omega) h0 (by omega) (fun k hk => by have := hb k hk; omega))
    have hsb := sm26_bd (st := unS l space) hf l.length (Nat.le_refl _)
    have hlb := lf26_bd (st := unS l space) h0 (fun k hk => (hb k hk).1) l.length (Nat.le_refl _)
    have hus : stF l space l.length (l.length + 1) = unS l space := rfl
    rw [hus] at CST
    generalize unS l space = st at *
    generalize sm26 l st l.length = n at *
    generalize lf26 l st space l.length = r at *
    generalize is26 l st l.length = is at *
    clear hus hG hb hf h
    obtain ⟨N, hN0⟩ : ∃ N, N = l.length := ⟨_, rfl⟩
    rw [← hN0] at CST CSU CLE hN hsb
    clear hN0
    go_enter Try.func8, Try.ntmps8
    go_wp2_with fail
    refine Calls.mono CR.out ?_
    rintro e w1 ⟨rfl, hb1⟩
    go_wp2_with fail
    refine Calls.mono ((CST.out) w1 hb1) ?_
    rintro e w2 ⟨ao, ca, rfl, har, hb2⟩
    have hB2 : Below w.heap.size w w2 := hb1.trans (hb2.mono hb1.size)
    clear hb1 hb2 CST
    go_wp2_with fail
    refine Calls.mono ((CSU.out) ao ca w2 hB2 har) ?_
    rintro e w3 ⟨rfl, hb3⟩
    have hB3 : Below w.heap.size w w3 := hB2.trans (hb3.mono hB2.size)
    have har3 := har.below hb3
    clear hb3 hB2 har CSU
    cases is
    · have HV2 : Hid (R = 0) := hide (by rw [HV.out, if_neg (fun hh => by have := hh.2; exact absurd this (by decide))])
      have HB := hide hB3
      clear HV hB3 har3 CLE
      go_wp2_with fail
      go_ret
      exact ⟨by rw [HV2.out] <;> rfl, HB.out⟩
    · have HV2 : Hid (R = upV r 1000 (max n 1000)) := hide (by rw [HV.out, if_pos ⟨by trivial, by trivial⟩])
      have hlow := mdV_low (a := r) (c := max n 1000) (by omega) (by omega) (by omega)
      have CUP := hide (fun W => rup26_any r 1000 (max n 1000) W (by omega) (by omega) (by omega) (by omega) (by omega) (by omega) hlow.1)
      clear HV hlow
      go_wp2_with fail
      refine Calls.mono ((CLE.out) ao ca w3 hB3 har3) ?_
      rintro e w4 ⟨rfl, hb4⟩
      have HB := hide (hB3.trans (hb4.mono hB3.size))
      clear hB3 hb4 har3 CLE
      go_wp2_with fail
      refine Calls.mono ((CUP.out) w4) ?_
      rintro e w5 ⟨rfl, hb5⟩
      have HB5 := hide ((HB.out).trans (hb5.mono (HB.out).size))
      clear hb5 HB
      go_wp2_with fail
      go_ret
      exact ⟨by rw [HV2.out] <;> rfl, HB5.out⟩

end Go.Proofs.Ytaonlpjfbajlcaa

namespace Go.Proofs.Ytaonlpjfbajlcaa
open Go.RowKit

theorem shV_nil_of {n : Int} {zs : List Int} (h : n < 0 ∨ 68719476736 < n ∨ zs.length = 0 ∨ 65536 < zs.length) : shV n zs = [] := by
  unfold shV
  rw [if_neg]
  rintro ⟨h0, h1, hw⟩
  obtain ⟨p1, p2, p3, p4⟩ := weigh_parts hw
  rcases h with h | h | h | h
  · omega
  · omega
  · rw [List.length_eq_zero_iff.1 h] at p4; simp at p4
  · omega

set_option maxHeartbeats 1000000 in
theorem rshare_out (n : Int) (a : Option Addr) (len cap : Nat) (w : World) (h : n < 0 ∨ 68719476736 < n ∨ len = 0 ∨ 65536 < len) :
    Calls Try.prog 34 #[.int .i64 n, .slice a len cap] w fun e w' => e = .returned (.slice none 0 0) ∧ w' = w := by
  by_cases h1 : n < 0
  · clear h
    go_enter Try.func34, Try.ntmps34
    go_wp2
    go_ret
    exact ⟨rfl, rfl⟩
  · by_cases h2 : 68719476736 < n
    · clear h
      go_enter Try.func34, Try.ntmps34
      go_wp2
      go_ret
      exact ⟨rfl, rfl⟩
    · by_cases h3 : len = 0
      · subst h3
        clear h
        go_enter Try.func34, Try.ntmps34
        go_wp2
        go_ret
        exact ⟨rfl, rfl⟩
      · have h4 : (65536 : Int) < (len : Int) := by omega
        have h3' : ((len : Int) == 0) = false := by simp; omega
        clear h
        go_enter Try.func34, Try.ntmps34
        go_wp2
        go_ret
        exact ⟨rfl, rfl⟩

/-- One share appended. -/
theorem rshare_step {w wr w1 : World} {n all x : Int} {zs : List Int} {k : Nat} {v v' : Value} (hx : x = shareAt n all zs k)
    (hB : Below w.heap.size w wr) (hown : wr.ownsRow w.heap.size 3 1 v k ((shareUp n all zs k).map (Value.int .i64)))
    (hown' : w1.ownsRow w.heap.size 3 1 v' (k + 1) ((shareUp n all zs k).map (Value.int .i64) ++ [.int .i64 x]))
    (hgrow : (wr.alloc (.cells #[.int .i64 x] 3)).grownBy w1 v.ownBlock) :
    w1.ownsRow w.heap.size 3 1 v' (k + 1) ((shareUp n all zs (k + 1)).map (Value.int .i64)) ∧ Below w.heap.size w w1 := by
  subst hx
  refine ⟨by rw [shareUp_succ]; simpa using hown', ?_⟩
  refine (hB.alloc hB.size _).grown hgrow (by have := hB.size; simp; omega) ?_
  intro b hb
  exact (hown.lt b hb).1

set_option maxRecDepth 100000 in
set_option maxHeartbeats 2000000 in
theorem rshare_in (n : Int) (zs : List Int) (b off cap : Nat) (w : World) (hbl : b < w.heap.size) (hc : ∀ i, i < zs.length → w.cell? ⟨b, off + i, none⟩ = some (.int .i64 (zs.getD i 0)))
    (h0 : 0 ≤ n) (h1 : n ≤ 68719476736) (hl0 : 0 < zs.length) (hl1 : zs.length ≤ 65536) :
    Calls Try.prog 34 #[.int .i64 n, .slice (some ⟨b, off, none⟩) zs.length cap] w fun e w' => ∃ v, e = .returned v ∧ Reads w' v (shV n zs) ∧ Below w.heap.size w w' := by
  obtain ⟨N, hN⟩ : ∃ N, N = zs.length := ⟨_, rfl⟩
  rw [← hN] at hc hl0 hl1 ⊢
  have HN := hide hN
  have HC := hide hc
  have hn0 : ¬ n < 0 := by omega
  have hn1 : ¬ 68719476736 < n := by omega
  have hN0 : ((N : Int) == 0) = false := by simp; omega
  have hN1 : ¬ (65536 : Int) < (N : Int) := by omega
  obtain ⟨i0, hi, hz0, hz1, hz2⟩ := info_parts info_intF
  clear hN hc
  go_enter Try.func34, Try.ntmps34
  go_wp2
  go_loop [5, 6] (fun t i => ∃ (k : Nat) (s : Int), k ≤ N ∧ i = .int .i64 k ∧ t = .int .i64 s ∧ Hid (s = wsum zs k) ∧ 0 ≤ s ∧ s ≤ k * 1073741824 ∧ Hid (∀ j, j < k → okW (zs.getD j 0) = true)) (fun _ i => N - (intOf i).toNat)
  case atStart => exact ⟨0, 0, Nat.zero_le _, rfl, rfl, (wsum_zero zs).symm, by omega, by omega, fun _ h => absurd h (by omega)⟩
  case round =>
    obtain ⟨k, s, hk, rfl, rfl, HS, hs0, hs1, HA⟩ := hrel
    by_cases hlt2 : k < N
    · have hc1 := HC.out k hlt2
      have hi2 : (k : Int) < (N : Int) := by omega
      have hkz : k < zs.length := by rw [← HN.out]; exact hlt2
      have HW : Hid (wsum zs (k + 1) = wsum zs k + zs.getD k 0) := wsum_succ zs k hkz
      obtain ⟨z, hz⟩ : ∃ z, z = zs.getD k 0 := ⟨_, rfl⟩
      rw [← hz] at hc1
      have HZ : Hid (z = zs.getD k 0) := hz
      clear hz
      cases ho : okW z
      · have hbad := okW_false ho
        have e : shV n zs = [] := by
          unfold shV; rw [if_neg]; rintro ⟨_, _, hw⟩
          exact not_all hkz (by rw [← HZ.out]; exact ho) (weigh_parts hw).2.1
        have HE := hide e
        clear e HW HA HS ho hkz
        by_cases hneg : z < 0
        · clear hbad
          go_wp2
          go_ret
          exact ⟨_, rfl, by rw [HE.out]; exact Reads.nil _, Below.refl _ _⟩
        · have hbig2 : 1073741824 < z := by omega
          clear hbad
          go_wp2
          go_ret
          exact ⟨_, rfl, by rw [HE.out]; exact Reads.nil _, Below.refl _ _⟩
      · have hgood := okW_true ho
        have hg1 := hgood.1
        have hg2 := hgood.2
        have HO := hide ho
        clear hgood ho
        go_wp2
        go_round
        case rel =>
          refine ⟨k + 1, s + z, by omega, by go_num, rfl, ?_, by omega, by omega, ?_⟩
          · show s + z = _
            rw [HW.out, HS.out, HZ.out]
          · intro j hj
            by_cases e : j = k
            · subst e; rw [← HZ.out]; exact HO.out
            · exact HA.out j (by omega)
        case measure => simp [intOf]; omega
    · have hkn : k = N := by omega
      have hall : zs.all okW = true := all_upto (fun j hj => HA.out j (by rw [← HN.out] at hj; omega))
      have hsum : s = zs.sum := by rw [HS.out, hkn, HN.out, wsum_all]
      have hwv : weighV zs = zs.sum := by unfold weighV; rw [if_pos ⟨by rw [← HN.out]; omega, hall⟩]
      clear HA HS
      by_cases hs : s = 0
      · have e : shV n zs = [] := by unfold shV; rw [if_neg]; rintro ⟨_, _, hw⟩; exact hw (by rw [hwv, ← hsum]; exact hs)
        have HE := hide e
        subst hs
        clear e hsum hwv hall hkn
        go_wp2
        go_ret
        exact ⟨_, rfl, by rw [HE.out]; exact Reads.nil _, Below.refl _ _⟩
      · have hsb : (s == 0) = false := by simp [hs]
        have hpos : 0 < zs.sum := by rw [← hsum]; omega
        have e : shV n zs = shareUp n s zs N := by unfold shV; rw [if_pos ⟨h0, h1, by rw [hwv]; omega⟩]; unfold shareV; rw [hsum, HN.out]
        have hcum : ∀ j, j ≤ N → 0 ≤ cum n s zs j ∧ cum n s zs j ≤ n := fun j hj => by rw [hsum]; exact cum_bd hall hpos h0 j (by rw [← HN.out]; exact hj)
        have hws : ∀ j, j ≤ N → 0 ≤ wsum zs j ∧ wsum zs j ≤ 70368744177664 := fun j hj => by have := wsum_bd hall j (by rw [← HN.out]; exact hj); omega
        have hmd : ∀ j, j ≤ N → ∀ w, Calls Try.prog 35 #[.int .i64 n, .int .i64 (wsum zs j), .int .i64 s] w fun e w' => e = .returned (.tuple #[.int .i64 (cum n s zs j), .int .i64 0]) ∧ Below w.heap.size w w' := fun j hj w => by
          have hb := hws j hj
          have hcj := hcum j hj
          have := rmuldiv_any n (wsum zs j) s w (by omega) (by omega) (by omega) (by omega) (by omega) (by omega)
          unfold cum at hcj ⊢
          rw [mdV_nat h0 hb.1 (by omega) (by omega)] at this
          exact this
        have HE := hide e
        have HCU := hide hcum
        have HWS := hide hws
        have HMD := hide hmd
        clear e hcum hws hmd hsum hwv hall hkn hpos hs
        go_wp2
        go_loopw [7, 8, 9, 10] (fun v t g i wr => ∃ (k : Nat) (s0 g0 : Int), k ≤ N ∧ i = .int .i64 k ∧ t = .int .i64 s0 ∧ g = .int .i64 g0 ∧ Hid (s0 = wsum zs k) ∧ Hid (g0 = cum n s zs k) ∧
          wr.ownsRow w.heap.size 3 1 v k ((shareUp n s zs k).map (Value.int .i64)) ∧ Below w.heap.size w wr) (fun _ _ _ i _ => N - (intOf i).toNat)
        case atStart => exact ⟨0, 0, 0, Nat.zero_le _, rfl, rfl, rfl, (wsum_zero zs).symm, by show (0 : Int) = _; simp [cum, wsum_zero], World.ownsRow_nil _ _ _ _, Below.refl _ _⟩
        case round =>
          obtain ⟨k, s0, g0, hk, rfl, rfl, rfl, HS, HG, hown, hB⟩ := hrel
          by_cases hlt : k < N
          · have hi3 : (k : Int) < (N : Int) := by omega
            have hkz : k < zs.length := by rw [← HN.out]; exact hlt
            obtain ⟨z, hz⟩ : ∃ z, z = zs.getD k 0 := ⟨_, rfl⟩
            have hcx : wr.cell? ⟨b, off + k, none⟩ = some (.int .i64 z) := by rw [hz]; exact (hB.cell (p := ⟨b, off + k, none⟩) hbl).trans (HC.out k hlt)
            have hs0 := HWS.out k hk
            have hs1 := HWS.out (k + 1) (by omega)
            rw [wsum_succ zs k hkz, ← hz, ← HS.out] at hs1
            rw [← HS.out] at hs0
            have hg0 := HCU.out k hk
            rw [← HG.out] at hg0
            have hzl : -70368744177664 ≤ z := by omega
            have hzh : z ≤ 70368744177664 := by omega
            obtain ⟨g1, hg1⟩ : ∃ g1, g1 = cum n s zs (k + 1) := ⟨_, rfl⟩
            have hg1b := HCU.out (k + 1) (by omega)
            rw [← hg1] at hg1b
            have hmul : ∀ w, Calls Try.prog 35 #[.int .i64 n, .int .i64 (s0 + z), .int .i64 s] w fun e w' => e = .returned (.tuple #[.int .i64 g1, .int .i64 0]) ∧ Below w.heap.size w w' := by
              intro w
              have := HMD.out (k + 1) (by omega) w
              rw [wsum_succ zs k hkz, ← hz, ← HS.out, ← hg1] at this
              exact this
            have HX : Hid (g1 - g0 = shareAt n s zs k) := by show g1 - g0 = _; rw [hg1, HG.out]; rfl
            have HG1 := hide hg1
            have HM := hide hmul
            have HZ := hide hz
            clear hz hg1 hmul hkz
            go_wp2_with fail
            refine (unhide HM _).mono ?_
            rintro e w1 ⟨rfl, hb1⟩
            have hB1 : Below w.heap.size w w1 := hB.trans (hb1.mono hB.size)
            have hown1 : w1.ownsRow w.heap.size 3 1 _ k ((shareUp n s zs k).map (Value.int .i64)) := hown.kept (row := none) ⟨hb1.os, hb1.tape, hb1.output, hb1.size, fun j hj _ => hb1.block j hj⟩ (by rcases hv : Value.ownBlock _ with _ | b; exact .inl rfl; exact .inr (by simp))
            clear hb1 hcx hown hB
            go_wp2_with (at_builtin; refine wpList_append_own _ rfl _ _ 23 rfl w.heap.size 3 i0 (.int .i64 0) 1 8 Try.underlying23 hi hz0 hz1 hz2 rfl (by decide) _ _ _ rfl (hown1.alloc _) ⟨w1.heap.size, 0, none⟩ 1 1 [.int .i64 (g1 - g0)] rfl rfl (cell_one_new _ _ _) (by simp [Value.oneCell']) (by unfold maxLen; omega) (by omega) (by have := hB1.size; simp; omega) ?_; intro v' w2 hown' hgrow _)
            have R := rshare_step HX.out hB1 hown1 hown' hgrow
            clear hown' hgrow hown1
            go_wp2
            go_roundw
            case rel =>
              refine ⟨k + 1, s0 + z, g1, by omega, by go_num, rfl, rfl, ?_, HG1, R.1, R.2⟩
              show s0 + z = _
              rw [wsum_succ zs k (by rw [← HN.out]; exact hlt), HS.out, HZ.out]
            case measure => simp [intOf]; omega
          · have e : k = N := by omega
            subst e
            have R := reads_owns hown
            go_wp2
            go_ret
            exact ⟨_, rfl, by rw [HE.out]; exact R, hB⟩

/-- EVERY number, EVERY weights. -/
theorem rshare_any (n : Int) (v : Value) (zs : List Int) (w : World) (hx : Reads w v zs) :
    Calls Try.prog 34 #[.int .i64 n, v] w fun e w' => ∃ u, e = .returned u ∧ Reads w' u (shV n zs) ∧ Below w.heap.size w w' := by
  by_cases h : n < 0 ∨ 68719476736 < n ∨ zs.length = 0 ∨ 65536 < zs.length
  · rw [shV_nil_of h]
    obtain ⟨a, len, cap, rfl, el⟩ : ∃ a len cap, v = .slice a len cap ∧ len = zs.length := by
      rcases hx with ⟨rfl, a, c, h⟩ | ⟨b, off, c, h, _⟩
      · exact ⟨_, _, _, h, rfl⟩
      · exact ⟨_, _, _, h, rfl⟩
    rw [← el] at h
    exact (rshare_out n a len cap w h).mono fun e w' h => ⟨_, h.1, Reads.nil _, h.2 ▸ Below.refl _ _⟩
  · rcases hx with ⟨rfl, _⟩ | ⟨b, off, cap, rfl, hlt, hc⟩
    · simp at h
    · exact rshare_in n zs b off cap w hlt hc (by omega) (by omega) (by omega) (by omega)

end Go.Proofs.Ytaonlpjfbajlcaa

namespace Go.Proofs.Ytaonlpjfbajlcaa
open Go.RowKit

/-- The space less the gaps. -/
def spF (f : Nat → Int) (size : Int) : Nat → Int
  | 0 => size
  | k + 1 => max 0 (spF f size k - f k)

theorem spF_bd {f : Nat → Int} {size : Int} {N : Nat} (h0 : 0 ≤ size) (hf : ∀ k, k < N → 0 ≤ f k) : ∀ k, k ≤ N → 0 ≤ spF f size k ∧ spF f size k ≤ size
  | 0, _ => ⟨h0, Int.le_refl _⟩
  | k + 1, hk => by
    have := spF_bd h0 hf k (by omega)
    have := hf k (by omega)
    simp only [spF]
    omega

def wtF (l : List SzD) (st : Nat → Bool) (k : Nat) : Int := if flx l k && !st k then (l.getD k noSz).fr else 0

theorem sm26_sA (l : List SzD) (st : Nat → Bool) : ∀ k, sA (wtF l st) k = sm26 l st k
  | 0 => rfl
  | k + 1 => by
    simp only [sA, sm26, wtF]
    rw [sm26_sA l st k]
    split <;> omega

theorem sum_range (g : Nat → Int) : ∀ k, ((List.range k).map g).sum = sA g k
  | 0 => rfl
  | k + 1 => by
    rw [List.range_succ, List.map_append, List.sum_append, sum_range g k]
    simp [sA]

theorem shV_full {r : Int} {l : List SzD} {st : Nat → Bool} {N : Nat} (h0 : 0 ≤ r) (h1 : r ≤ 68719476736) (hN : N ≤ 65536) (hf : ∀ k, k < N → 0 ≤ (l.getD k noSz).fr ∧ (l.getD k noSz).fr ≤ 1073741824) (hn : 1000 ≤ sm26 l st N) : (shV r ((List.range N).map (wtF l st))).length = N := by
  have hok : ((List.range N).map (wtF l st)).all okW = true := by
    rw [List.all_eq_true]
    intro x hx
    obtain ⟨k, hk, rfl⟩ := List.mem_map.1 hx
    have := hf k (List.mem_range.1 hk)
    unfold okW wtF
    generalize (l.getD k noSz).fr = y at this ⊢
    split <;> simp <;> omega
  have hs : ((List.range N).map (wtF l st)).sum = sm26 l st N := by rw [sum_range, sm26_sA]
  have hw : weighV ((List.range N).map (wtF l st)) = sm26 l st N := by
    unfold weighV
    rw [if_pos ⟨by simp; omega, hok⟩, hs]
  unfold shV
  rw [if_pos ⟨h0, h1, by rw [hw]; omega⟩]
  simp [shareV, shareUp]

/-- What a track gets. -/
def ptF (l : List SzD) (st : Nat → Bool) (r : Int) (N k : Nat) : Int := if 1000 ≤ sm26 l st N then (shV r ((List.range N).map (wtF l st))).getD k 0 else (mdV r (l.getD k noSz).fr 1000).1

def setB (s : SzD) (y : Int) : SzD := ⟨s.mn, s.mx, s.fr, s.fit, s.cap, y, s.limit⟩

def fiV (l : List SzD) (st : Nat → Bool) (r : Int) (N k : Nat) : SzD := raiseV (if flx l k && !st k then setB (l.getD k noSz) (max (l.getD k noSz).base (ptF l st r N k)) else l.getD k noSz)

def fiL (l : List SzD) (st : Nat → Bool) (r : Int) (N : Nat) : Nat → List SzD
  | 0 => []
  | k + 1 => fiL l st r N k ++ [fiV l st r N k]

theorem fiL_len (l : List SzD) (st : Nat → Bool) (r : Int) (N : Nat) : ∀ k, (fiL l st r N k).length = k
  | 0 => rfl
  | k + 1 => by simp only [fiL, List.length_append, List.length_singleton]; rw [fiL_len l st r N k]

def fillW (l : List SzD) (M : Nat) (f : Nat → Int) (size : Int) : List SzD :=
  if rgF l size = true ∧ good24 l M f [] 0 = true then fiL l (unS l (spF f size l.length)) (lf26 l (unS l (spF f size l.length)) (spF f size l.length) l.length) l.length l.length else l

theorem unS_facts {l : List SzD} {size space : Int} (h : rgF l size = true) (h0 : 0 ≤ space) (h1 : space ≤ 68719476736) : rgF l space = true := by
  unfold rgF at h ⊢
  rw [Bool.and_eq_true] at h ⊢
  refine ⟨h.1, ?_⟩
  rw [isSz_iff]
  simp [h0, h1]

/-- The weights, one behind the other. -/
structure WtS (w W : World) (v : Value) (l : List SzD) (aw : Option Addr) (N : Nat) (st : Nat → Bool) (u : Value) (k : Nat) : Prop where
  s : SzL w v l
  a : ArB w aw N st
  bel : Below w.heap.size w W
  own : W.ownsRow w.heap.size 3 1 u k (((List.range k).map (wtF l st)).map (Value.int .i64))

theorem WtS.next {w W W' : World} {v u : Value} {l : List SzD} {aw : Option Addr} {N k : Nat} {st : Nat → Bool} (h : WtS w W v l aw N st u k) (hb : Below W.heap.size W W') : WtS w W' v l aw N st u k := ⟨h.s, h.a, h.bel.trans (hb.mono h.bel.size), own_below22 h.own hb⟩

set_option maxRecDepth 100000 in
set_option maxHeartbeats 8000000 in
theorem rfill26_any (v : Value) (l : List SzD) (aa : Option Addr) (M ca : Nat) (f : Nat → Int) (size : Int) (w : World) (h : SzL w v l) (ha : ArI w aa M f) (hN : l.length ≤ 65536) : Calls Try.prog 11 #[v, .slice aa M ca, .int .i64 size] w fun e w' => ∃ u, e = .returned u ∧ SzL w' u (fillW l M f size) ∧ Below w.heap.size w w' := by
  have CR := hide (rright26_any v l size w h (by omega))
  have CG := hide (fun W (hb : Below w.heap.size w W) => rgood24_any v l aa M ca f (.slice none 0 0) [] 0 W (h.below hb) (ha.below hb) (.inl ⟨rfl, _, _, rfl⟩) (by omega) (by simp))
  have HS := hide h
  have HA := hide ha
  have HV : Hid (fillW l M f size = if rgF l size = true ∧ good24 l M f [] 0 = true then fiL l (unS l (spF f size l.length)) (lf26 l (unS l (spF f size l.length)) (spF f size l.length) l.length) l.length l.length else l) := hide rfl
  generalize fillW l M f size = R at *
  generalize hG : rgF l size = G at *
  generalize hG4 : good24 l M f [] 0 = G4 at *
  have hcell : ∃ ao cap, v = .slice ao l.length cap := h.slice
  cases G
  · have HV2 : Hid (R = l) := hide (by rw [HV.out, if_neg (fun hh => by have := hh.1; exact absurd this (by decide))])
    clear hG hG4 HV h ha CG
    go_enter Try.func11, Try.ntmps11
    go_wp2_with fail
    refine Calls.mono CR.out ?_
    rintro e w1 ⟨rfl, hb⟩
    have HB := hide hb
    clear hb
    go_wp2_with fail
    go_ret
    exact ⟨_, rfl, by rw [HV2.out]; exact (HS.out).below HB.out, HB.out⟩
  · cases G4
    · have HV2 : Hid (R = l) := hide (by rw [HV.out, if_neg (fun hh => by have := hh.2; exact absurd this (by decide))])
      clear hG hG4 HV h ha
      go_enter Try.func11, Try.ntmps11
      go_wp2_with fail
      refine Calls.mono CR.out ?_
      rintro e w1 ⟨rfl, hb⟩
      have HB := hide hb
      go_wp2_with fail
      refine Calls.mono ((CG.out) w1 hb) ?_
      rintro e w2 ⟨rfl, hb2⟩
      have HB2 := hide (hb.trans (hb2.mono hb.size))
      clear hb hb2 CG HB
      go_wp2_with fail
      go_ret
      exact ⟨_, rfl, by rw [HV2.out]; exact (HS.out).below HB2.out, HB2.out⟩
    · obtain ⟨⟨hz0, hz1⟩, hb, hf, -⟩ := rgF_facts hG
      have hh4 := hG4
      unfold good24 hd24 at hh4
      simp only [Bool.and_eq_true, decide_eq_true_eq] at hh4
      have hMN : M = l.length := hh4.1.1
      have hfa := fun k (hk : k < l.length) => isSz_bd (tg24_at hh4.2.1 k hk).2
      have HFA := hide hfa
      have HSP := hide (fun k hk => spF_bd hz0 (fun j hj => (hfa j hj).1) (N := l.length) k hk)
      have HV1 : Hid (R = fiL l (unS l (spF f size l.length)) (lf26 l (unS l (spF f size l.length)) (spF f size l.length) l.length) l.length l.length) := hide (by rw [HV.out, if_pos ⟨by trivial, by trivial⟩])
      have hspb := spF_bd hz0 (fun j hj => (hfa j hj).1) (N := l.length) l.length (Nat.le_refl _)
      have CST := hide (fun W (hbb : Below w.heap.size w W) => rstiff26_any v l (spF f size l.length) W (h.below hbb) (by omega) hspb.1 (by omega) (fun k hk => by have := hb k hk; omega) hf)
      have CSU := hide (fun ao ca W (hbb : Below w.heap.size w W) (ha : ArB W ao l.length (unS l (spF f size l.length))) => rsum26_any v l ao ca (unS l (spF f size l.length)) W (h.below hbb) ha (by omega) hf)
      have CLE := hide (fun ao ca W (hbb : Below w.heap.size w W) (ha : ArB W ao l.length (unS l (spF f size l.length))) => rleft26_any v l ao ca (unS l (spF f size l.length)) (spF f size l.length) W (h.below hbb) ha (by omega) hspb.1 (by omega) (fun k hk => by have := hb k hk; omega))
      have hsb := sm26_bd (st := unS l (spF f size l.length)) hf l.length (Nat.le_refl _)
      have hlb := lf26_bd (st := unS l (spF f size l.length)) hspb.1 (fun k hk => (hb k hk).1) l.length (Nat.le_refl _)
      have HSF := hide (fun hn => shV_full (r := lf26 l (unS l (spF f size l.length)) (spF f size l.length) l.length) (l := l) (st := unS l (spF f size l.length)) (N := l.length) hlb.1 (by omega) hN hf hn)
      have hus : stF l (spF f size l.length) l.length (l.length + 1) = unS l (spF f size l.length) := rfl
      rw [hus] at CST
      have HFF := hide hf
      clear hus hh4 hfa HV hG hG4 hb hf
      subst hMN
      generalize unS l (spF f size l.length) = st at *
      obtain ⟨ao, cap, rfl⟩ := hcell
      have HA0 := hide ha
      clear h ha
      obtain ⟨N, hN0⟩ : ∃ N, N = l.length := ⟨_, rfl⟩
      rw [← hN0] at CST CSU CLE hsb hlb HSF HFF HSP HFA HV1 HS HA0 CR CG hspb hN
      rw [← hN0]
      have HNL := hide hN0
      clear hN0 HA
      have CF := hide (fun a b c q e f g W => rflex26_any a b c e f g q W)
      go_enter Try.func11, Try.ntmps11
      go_wp2_with fail
      refine Calls.mono CR.out ?_
      rintro e w1 ⟨rfl, hb⟩
      go_wp2_with fail
      refine Calls.mono ((CG.out) w1 hb) ?_
      rintro e w2 ⟨rfl, hb2⟩
      have HB2 := hide (hb.trans (hb2.mono hb.size))
      have HA2 := hide ((HA0.out).below (HB2.out))
      clear hb hb2 CG CR
      go_wp2_with fail
      go_loop [7, 8] (fun s i => ∃ (k : Nat) (S : Int), k ≤ N ∧ i = .int .i64 (k : Int) ∧ s = .int .i64 S ∧ Hid (S = spF f size k) ∧ 0 ≤ S ∧ S ≤ 68719476736) (fun _ i => N - (intOf i).toNat)
      case atStart => exact ⟨0, size, Nat.zero_le _, by go_num, by go_num, hide rfl, hz0, hz1⟩
      case round =>
        obtain ⟨k, S, hk, rfl, rfl, HSE, hs0, hs1⟩ := hrel
        by_cases hkl : k < N
        · have hi : (k : Int) < (N : Int) := by omega
          have hn2 : ¬ (k : Int) < 0 := by omega
          obtain ⟨b, off, rfl, hc⟩ := (HA2.out).at hkl
          have hff := (HFA.out) k hkl
          have HSN : Hid (max 0 (S - f k) = spF f size (k + 1)) := hide (by rw [HSE.out]; rfl)
          clear HSE HSP HFA CST CSU CLE HSF HV1
          generalize f k = y at *
          go_wp2_with fail
          go_round
          case rel => exact ⟨k + 1, _, by omega, by go_num, by go_num, HSN, by omega, by omega⟩
          case measure => simp [intOf]; omega
        · have hi : ¬ (k : Int) < (N : Int) := by omega
          have hse := HSE.out
          rw [show k = N by omega] at hse
          rw [← hse] at CST CLE HV1 HSF hlb hspb
          clear hse HSE HSP HFA
          have HPT := hide (fun k => (show ptF l st (lf26 l st S N) N k = if 1000 ≤ sm26 l st N then (shV (lf26 l st S N) ((List.range N).map (wtF l st))).getD k 0 else (mdV (lf26 l st S N) (l.getD k noSz).fr 1000).1 from rfl))
          generalize hnn : sm26 l st N = n at *
          generalize hrr : lf26 l st S N = r at *
          clear hnn hrr
          go_wp2_with fail
          refine Calls.mono ((CST.out) w2 HB2.out) ?_
          rintro e w3 ⟨aw, cw, rfl, har3, hb3⟩
          have hB3 : Below w.heap.size w w3 := (HB2.out).trans (hb3.mono (HB2.out).size)
          clear hb3 CST
          go_wp2_with fail
          refine Calls.mono ((CSU.out) aw cw w3 hB3 har3) ?_
          rintro e w4 ⟨rfl, hb4⟩
          have hB4 : Below w.heap.size w w4 := hB3.trans (hb4.mono hB3.size)
          have har4 := har3.below hb4
          clear hb4 hB3 har3 CSU
          go_wp2_with fail
          refine Calls.mono ((CLE.out) aw cw w4 hB4 har4) ?_
          rintro e w5 ⟨rfl, hb5⟩
          have HB5 := hide (hB4.trans (hb5.mono hB4.size))
          have har5 := har4.below hb5
          have ST0 : Hid (WtS w5 w5 (.slice ao N cap) l aw N st (.slice none 0 0) 0) := hide ⟨(HS.out).below (HB5.out), har5, Below.refl _ _, World.ownsRow_nil _ _ _ _⟩
          clear hb5 hB4 har4 har5 CLE
          obtain ⟨i0, hinf, hy0, hy1, hy2⟩ := info_parts info_intF
          go_wp2_with fail
          go_loopw [13, 14] (fun o i wr => ∃ k : Nat, k ≤ N ∧ i = .int .i64 (k : Int) ∧ Hid (WtS w5 wr (.slice ao N cap) l aw N st o k)) (fun _ i _ => N - (intOf i).toNat)
          case atStart => exact ⟨0, Nat.zero_le _, by go_num, ST0⟩
          case round =>
            clear ST0
            obtain ⟨k, hk, rfl, ST⟩ := hrel
            obtain ⟨ua, uc, rfl⟩ := own_sl22 (ST.out).own
            by_cases hkl : k < N
            · have hi1 : (k : Int) < (N : Int) := by omega
              have hn2 : ¬ (k : Int) < 0 := by omega
              have hkl2 : k < l.length := by rw [← HNL.out]; exact hkl
              obtain ⟨b, off, rfl, hlt, x0, x1, x2, x3, x4, x5, x6⟩ := ((ST.out).s.below (ST.out).bel).at hkl2
              obtain ⟨b2, o2, rfl, hlt2, e0⟩ := (ST.out).a.at2 hkl
              have HRS : Hid (((List.range (k + 1)).map (wtF l st)).map (Value.int .i64) = ((List.range k).map (wtF l st)).map (Value.int .i64) ++ [.int .i64 (wtF l st k)]) := hide (by rw [List.range_succ]; simp)
              have hwt : wtF l st k = if ((l.getD k noSz).mx == 5) && !st k then (l.getD k noSz).fr else 0 := rfl
              have HC2 := hide (fun W (hb : Below w5.heap.size w5 W) => And.intro (((ST.out).s.below hb).at hkl2) ((hb.cell (p := ⟨b2, o2 + k, none⟩) hlt2).trans e0))
              generalize wtF l st k = wv at HRS hwt
              clear HSF HPT HV1 HFF e0
              generalize st k = q2 at *
              generalize l.getD k noSz = z at *
              obtain ⟨a1, a2, a3, q, a5, a6, a7⟩ := z
              simp only at x0 x1 x2 x3 x4 x5 x6 hwt HC2
              have HWT := hide hwt
              clear hwt
              go_wp2_with fail
              refine Calls.mono ((CF.out) a1 a2 a3 q a5 a6 a7 _) ?_
              rintro e w6 ⟨rfl, hb6⟩
              have ST6 := hide ((ST.out).next hb6)
              obtain ⟨⟨b', off', eb, -, y0, y1, y2, y3, y4, y5, y6⟩, e1⟩ := (HC2.out) w6 (ST6.out).bel
              obtain ⟨rfl, rfl⟩ : b = b' ∧ off = off' := by simpa using eb
              clear hb6 ST HC2 x0 x1 x2 x3 x4 x5 x6 eb
              generalize (a2 == 5) = q1 at *
              cases q1
              · have HW0 : Hid (wv = 0) := hide (by rw [HWT.out]; rfl)
                have HRS2 : Hid (((List.range (k + 1)).map (wtF l st)).map (Value.int .i64) = ((List.range k).map (wtF l st)).map (Value.int .i64) ++ [.int .i64 (0)]) := hide (by rw [HRS.out, HW0.out])
                clear HWT HRS HW0
                go_wp2_with (at_builtin; refine wpList_append_own _ rfl _ _ 23 rfl w5.heap.size 3 i0 (.int .i64 0) 1 8 Try.underlying23 hinf hy0 hy1 hy2 rfl (by decide) _ _ _ rfl ((ST6.out).own.alloc _) ⟨w6.heap.size, 0, none⟩ 1 1 [.int .i64 (0)] rfl rfl (cell_one_new _ _ _) (by simp [Value.oneCell']) (by unfold maxLen; omega) (by omega) (by have := (ST6.out).bel.size; simp; omega) ?_; intro v' w7 hown' hgrow _)
                have ST7 : Hid (WtS w5 w7 (.slice (some ⟨b, off, none⟩) N cap) l (some ⟨b2, o2, none⟩) N st v' (k + 1)) := hide ⟨(ST6.out).s, (ST6.out).a, ((ST6.out).bel.alloc (ST6.out).bel.size _).grown hgrow (by have := (ST6.out).bel.size; simp; omega) (fun q hq => (own_lt22 (ST6.out).own q hq).1), by rw [HRS2.out]; exact hown'⟩
                clear hown' hgrow ST6 HRS2
                go_wp2_with fail
                go_roundw
                case rel => exact ⟨k + 1, by omega, by go_num, ST7⟩
                case measure => simp [intOf]; omega
              · cases q2
                · have HW0 : Hid (wv = a3) := hide (by rw [HWT.out]; rfl)
                  have HRS2 : Hid (((List.range (k + 1)).map (wtF l st)).map (Value.int .i64) = ((List.range k).map (wtF l st)).map (Value.int .i64) ++ [.int .i64 (a3)]) := hide (by rw [HRS.out, HW0.out])
                  clear HWT HRS HW0
                  go_wp2_with (at_builtin; refine wpList_append_own _ rfl _ _ 23 rfl w5.heap.size 3 i0 (.int .i64 0) 1 8 Try.underlying23 hinf hy0 hy1 hy2 rfl (by decide) _ _ _ rfl ((ST6.out).own.alloc _) ⟨w6.heap.size, 0, none⟩ 1 1 [.int .i64 (a3)] rfl rfl (cell_one_new _ _ _) (by simp [Value.oneCell']) (by unfold maxLen; omega) (by omega) (by have := (ST6.out).bel.size; simp; omega) ?_; intro v' w7 hown' hgrow _)
                  have ST7 : Hid (WtS w5 w7 (.slice (some ⟨b, off, none⟩) N cap) l (some ⟨b2, o2, none⟩) N st v' (k + 1)) := hide ⟨(ST6.out).s, (ST6.out).a, ((ST6.out).bel.alloc (ST6.out).bel.size _).grown hgrow (by have := (ST6.out).bel.size; simp; omega) (fun q hq => (own_lt22 (ST6.out).own q hq).1), by rw [HRS2.out]; exact hown'⟩
                  clear hown' hgrow ST6 HRS2
                  go_wp2_with fail
                  go_roundw
                  case rel => exact ⟨k + 1, by omega, by go_num, ST7⟩
                  case measure => simp [intOf]; omega
                · have HW0 : Hid (wv = 0) := hide (by rw [HWT.out]; rfl)
                  have HRS2 : Hid (((List.range (k + 1)).map (wtF l st)).map (Value.int .i64) = ((List.range k).map (wtF l st)).map (Value.int .i64) ++ [.int .i64 (0)]) := hide (by rw [HRS.out, HW0.out])
                  clear HWT HRS HW0
                  go_wp2_with (at_builtin; refine wpList_append_own _ rfl _ _ 23 rfl w5.heap.size 3 i0 (.int .i64 0) 1 8 Try.underlying23 hinf hy0 hy1 hy2 rfl (by decide) _ _ _ rfl ((ST6.out).own.alloc _) ⟨w6.heap.size, 0, none⟩ 1 1 [.int .i64 (0)] rfl rfl (cell_one_new _ _ _) (by simp [Value.oneCell']) (by unfold maxLen; omega) (by omega) (by have := (ST6.out).bel.size; simp; omega) ?_; intro v' w7 hown' hgrow _)
                  have ST7 : Hid (WtS w5 w7 (.slice (some ⟨b, off, none⟩) N cap) l (some ⟨b2, o2, none⟩) N st v' (k + 1)) := hide ⟨(ST6.out).s, (ST6.out).a, ((ST6.out).bel.alloc (ST6.out).bel.size _).grown hgrow (by have := (ST6.out).bel.size; simp; omega) (fun q hq => (own_lt22 (ST6.out).own q hq).1), by rw [HRS2.out]; exact hown'⟩
                  clear hown' hgrow ST6 HRS2
                  go_wp2_with fail
                  go_roundw
                  case rel => exact ⟨k + 1, by omega, by go_num, ST7⟩
                  case measure => simp [intOf]; omega
            · have hi1 : ¬ (k : Int) < (N : Int) := by omega
              have ek : k = N := by omega
              subst ek
              have hro : Reads wr (.slice ua k uc) ((List.range k).map (wtF l st)) := reads_owns (ST.out).own
              have CSH := hide (rshare_any r (.slice ua k uc) ((List.range k).map (wtF l st)) wr hro)
              have HS5 := hide ((ST.out).s.below (ST.out).bel)
              have HAW := hide ((ST.out).a.below (ST.out).bel)
              have HB6 := hide ((HB5.out).trans ((ST.out).bel.mono (HB5.out).size))
              clear ST hro
              generalize shV r ((List.range k).map (wtF l st)) = P at *
              go_wp2_with fail
              refine Calls.mono CSH.out ?_
              rintro e w6 ⟨vp, rfl, hrp, hb6⟩
              obtain ⟨ap, cp, rfl, hap⟩ := hrp.arI
              have HAP := hide hap
              have HAW6 := hide ((HAW.out).below hb6)
              have HB7 := hide ((HB6.out).trans (hb6.mono (HB6.out).size))
              have ST0 := hide (MxA.start ((HS5.out).below hb6) (Below.refl _ w6))
              clear hap hrp hb6 CSH HS5 HAW HB6
              obtain ⟨i1, hinf1, hw0, hw1, hw2⟩ := info_parts szT22
              have CRA := hide (fun a b c q e f g W => rraise22_any ⟨a, b, c, q, e, f, g⟩ W)
              unfold szC at CRA
              simp only at CRA
              go_wp2_with fail
              go_loopw [17, 18] (fun o i wr => ∃ (j : Nat) (acc : List SzD), j ≤ k ∧ i = .int .i64 (j : Int) ∧ Hid (acc.length = j) ∧ Hid (acc = fiL l st r k j) ∧ Hid (MxA w6 wr (.slice ao k cap) l o acc)) (fun _ i _ => k - (intOf i).toNat)
              case atStart => exact ⟨0, [], Nat.zero_le _, by go_num, hide rfl, hide rfl, ST0⟩
              case round =>
                clear ST0
                obtain ⟨j, acc, hj, rfl, HAL, HAC, ST⟩ := hrel
                obtain ⟨ub, uc2, rfl⟩ := own_sl22 (ST.out).own
                by_cases hjk : j < k
                · have hi2 : (j : Int) < (k : Int) := by omega
                  have hn2 : ¬ (j : Int) < 0 := by omega
                  have hjL : j < l.length := by rw [← HNL.out]; exact hjk
                  obtain ⟨b, off, rfl, hlt, x0, x1, x2, x3, x4, x5, x6⟩ := (ST.out).l.at hjL
                  obtain ⟨b2, o2, rfl, hlt2, e0⟩ := (HAW6.out).at2 hjk
                  obtain ⟨hf0, hf1⟩ := (HFF.out) j hjk
                  have hsn : acc ++ [raiseV (if ((l.getD j noSz).mx == 5) && !st j then setB (l.getD j noSz) (max (l.getD j noSz).base (ptF l st r k j)) else l.getD j noSz)] = fiL l st r k (j + 1) := by rw [HAC.out]; rfl
                  have HSN := hide hsn
                  have HPJ := hide ((HPT.out) j)
                  have CM2 := hide (fun W => rmuldiv_any r (l.getD j noSz).fr 1000 W (by omega) (by omega) (by omega) (by omega) (by omega) (by omega))
                  have HWC := hide (fun W (hb : Below w6.heap.size w6 W) => (hb.cell (p := ⟨b2, o2 + j, none⟩) hlt2).trans e0)
                  have HPC := hide (fun W (hb : Below w6.heap.size w6 W) (h : j < P.length) => ((HAP.out).below hb).at h)
                  have HSFP := hide (fun (hn : 1000 ≤ n) => (show j < P.length by rw [(HSF.out) hn]; exact hjk))
                  clear hsn HAC HPT HV1 HFF e0 HSF
                  generalize ptF l st r k j = pt at *
                  generalize st j = q2 at *
                  generalize l.getD j noSz = z at *
                  obtain ⟨a1, a2, a3, q, a5, a6, a7⟩ := z
                  simp only at x0 x1 x2 x3 x4 x5 x6 HSN HPJ CM2 hf0 hf1
                  have hX : w6.heap.size ≤ wr.heap.size := (ST.out).bel.size
                  have HOWN := hide (fun g (hg : (Value.slice ub acc.length uc2).ownBlock = some g) => Nat.ne_of_lt (own_lt22 (ST.out).own g hg).2)
                  have ST2 := hide ((ST.out).alloc (.cells #[.int .i64 a1, .int .i64 a2, .int .i64 a3, .bool q, .int .i64 a5, .int .i64 a6, .int .i64 a7] 32))
                  have s6 : SzR (wr.alloc (.cells #[.int .i64 a1, .int .i64 a2, .int .i64 a3, .bool q, .int .i64 a5, .int .i64 a6, .int .i64 a7] 32)) wr.heap.size ⟨a1, a2, a3, q, a5, a6, a7⟩ := SzR.new wr ⟨a1, a2, a3, q, a5, a6, a7⟩
                  have HS6 := hide s6
                  clear s6
                  have hal : acc.length ≤ 1000000 := by rw [HAL.out]; omega
                  go_upto_region 25 with fail
                  generalize wr.alloc (.cells #[.int .i64 a1, .int .i64 a2, .int .i64 a3, .bool q, .int .i64 a5, .int .i64 a6, .int .i64 a7] 32) = w7 at *
                  generalize wr.heap.size = X at *
                  clear ST x0 x1 x2 x3 x4 x5 x6
                  obtain ⟨y0, y1, y2, y3, y4, y5, y6⟩ := (HS6.out).cells
                  go_wp2_with fail
                  refine Calls.mono ((CF.out) a1 a2 a3 q a5 a6 a7 _) ?_
                  rintro e w10 ⟨rfl, hb10⟩
                  have ST4 := hide ((ST2.out).next hb10)
                  have HS7 := hide ((HS6.out).below hb10 (HS6.out).lt)
                  have e1 := (HWC.out) w10 (ST4.out).bel
                  clear ST2 HS6 hb10 HWC y0 y1 y2 y3 y4 y5 y6
                  obtain ⟨y0, y1, y2, y3, y4, y5, y6⟩ := (HS7.out).cells
                  have yz := (HS7.out).z
                  generalize (a2 == 5) = q1 at *
                  cases q1
                  · have HSN2 : Hid (acc ++ [⟨a1, a2, a3, q, a5, a6, max a7 a6⟩] = fiL l st r k (j + 1)) := hide (by rw [← HSN.out]; rfl)
                    clear HSN CM2 HPJ
                    have ST3 := ST4
                    clear ST4
                    go_wp2_with (first
                      | (go_at_call 36; refine ((CRA.out) a1 a2 a3 q a5 (a6) a7 _).mono ?_; rintro e w8 ⟨rfl, hb8⟩; have ST5 := hide ((ST3.out).next hb8); clear hb8)
                      | (at_builtin; refine wpList_append_own _ rfl _ _ 22 rfl w6.heap.size 32 i1 _ 7 56 Try.underlying22 hinf1 hw0 hw1 hw2 rfl (by decide) _ _ _ rfl ((ST5.out).alloc _).own ⟨w8.heap.size, 0, none⟩ 1 1 (szC ⟨a1, a2, a3, q, a5, a6, max a7 (a6)⟩).toList rfl rfl (cell_sev_new22 _ _ _ rfl _ _ _ _ _ _ _) (by simp [szC, Value.oneCell']) (by unfold maxLen; omega) (by (try simp); omega) (by (try simp); have := (ST5.out).bel.size; omega) ?_))
                    intro v' w9 hown' hgrow _
                    have ST7 := hide ((ST5.out).push (s := ⟨a1, a2, a3, q, a5, a6, max a7 (a6)⟩) hown' hgrow)
                    clear hown' hgrow ST3 ST5
                    go_wp2_with fail
                    go_roundw
                    case rel => exact ⟨j + 1, acc ++ [⟨a1, a2, a3, q, a5, a6, max a7 (a6)⟩], by omega, by go_num, hide (by rw [List.length_append, HAL.out]; rfl), HSN2, ST7⟩
                    case measure => simp [intOf]; omega
                  · cases q2
                    rotate_left
                    · have HSN2 : Hid (acc ++ [⟨a1, a2, a3, q, a5, a6, max a7 a6⟩] = fiL l st r k (j + 1)) := hide (by rw [← HSN.out]; rfl)
                      clear HSN CM2 HPJ
                      have ST3 := ST4
                      clear ST4
                      go_wp2_with (first
                        | (go_at_call 36; refine ((CRA.out) a1 a2 a3 q a5 (a6) a7 _).mono ?_; rintro e w8 ⟨rfl, hb8⟩; have ST5 := hide ((ST3.out).next hb8); clear hb8)
                        | (at_builtin; refine wpList_append_own _ rfl _ _ 22 rfl w6.heap.size 32 i1 _ 7 56 Try.underlying22 hinf1 hw0 hw1 hw2 rfl (by decide) _ _ _ rfl ((ST5.out).alloc _).own ⟨w8.heap.size, 0, none⟩ 1 1 (szC ⟨a1, a2, a3, q, a5, a6, max a7 (a6)⟩).toList rfl rfl (cell_sev_new22 _ _ _ rfl _ _ _ _ _ _ _) (by simp [szC, Value.oneCell']) (by unfold maxLen; omega) (by (try simp); omega) (by (try simp); have := (ST5.out).bel.size; omega) ?_))
                      intro v' w9 hown' hgrow _
                      have ST7 := hide ((ST5.out).push (s := ⟨a1, a2, a3, q, a5, a6, max a7 (a6)⟩) hown' hgrow)
                      clear hown' hgrow ST3 ST5
                      go_wp2_with fail
                      go_roundw
                      case rel => exact ⟨j + 1, acc ++ [⟨a1, a2, a3, q, a5, a6, max a7 (a6)⟩], by omega, by go_num, hide (by rw [List.length_append, HAL.out]; rfl), HSN2, ST7⟩
                      case measure => simp [intOf]; omega
                    · have HSN3 : Hid (acc ++ [⟨a1, a2, a3, q, a5, max a6 pt, max a7 (max a6 pt)⟩] = fiL l st r k (j + 1)) := hide (by rw [← HSN.out]; rfl)
                      clear HSN
                      have HSN2 := HSN3
                      clear HSN3
                      generalize mdV r a3 1000 = mm at *
                      obtain ⟨m1, m2⟩ := mm
                      simp only at CM2 HPJ
                      go_upto_region 27 with (go_at_call 35; refine ((CM2.out) _).mono ?_; rintro e w11 ⟨rfl, hb11⟩; have ST11 := hide ((ST4.out).next hb11); have HS11 := hide ((HS7.out).below hb11 (HS7.out).lt); clear hb11)
                      clear ST4 HS7 y0 y1 y2 y3 y4 y5 y6 yz e1 CM2
                      obtain ⟨y0, y1, y2, y3, y4, y5, y6⟩ := (HS11.out).cells
                      have yz := (HS11.out).z
                      by_cases hn : 1000 ≤ n
                      · obtain ⟨bp, op, rfl, ec⟩ := (HPC.out) w11 (ST11.out).bel ((HSFP.out) hn)
                        have hjp : (j : Int) < (P.length : Int) := by have := (HSFP.out) hn; omega
                        have hpe := HPJ.out
                        rw [if_pos hn] at hpe
                        simp only [← hpe] at ec
                        clear HPJ HPC HSFP hpe
                        have ST3 := hide ((ST11.out).put hX (HOWN.out) 5 (.int .i64 (max a6 pt)))
                        have HS12 := hide ((HS11.out).base (max a6 pt))
                        go_upto_region 30 with fail
                        generalize World.setCell w11 _ _ = w12 at *
                        clear ST11 HS11 y0 y1 y2 y3 y4 y5 y6 yz
                        obtain ⟨y0, y1, y2, y3, y4, y5, y6⟩ := (HS12.out).cells
                        go_wp2_with (first
                          | (go_at_call 36; refine ((CRA.out) a1 a2 a3 q a5 (max a6 pt) a7 _).mono ?_; rintro e w8 ⟨rfl, hb8⟩; have ST5 := hide ((ST3.out).next hb8); clear hb8)
                          | (at_builtin; refine wpList_append_own _ rfl _ _ 22 rfl w6.heap.size 32 i1 _ 7 56 Try.underlying22 hinf1 hw0 hw1 hw2 rfl (by decide) _ _ _ rfl ((ST5.out).alloc _).own ⟨w8.heap.size, 0, none⟩ 1 1 (szC ⟨a1, a2, a3, q, a5, max a6 pt, max a7 (max a6 pt)⟩).toList rfl rfl (cell_sev_new22 _ _ _ rfl _ _ _ _ _ _ _) (by simp [szC, Value.oneCell']) (by unfold maxLen; omega) (by (try simp); omega) (by (try simp); have := (ST5.out).bel.size; omega) ?_))
                        intro v' w9 hown' hgrow _
                        have ST7 := hide ((ST5.out).push (s := ⟨a1, a2, a3, q, a5, max a6 pt, max a7 (max a6 pt)⟩) hown' hgrow)
                        clear hown' hgrow ST3 ST5
                        go_wp2_with fail
                        go_roundw
                        case rel => exact ⟨j + 1, acc ++ [⟨a1, a2, a3, q, a5, max a6 pt, max a7 (max a6 pt)⟩], by omega, by go_num, hide (by rw [List.length_append, HAL.out]; rfl), HSN2, ST7⟩
                        case measure => simp [intOf]; omega
                      · have hpe := HPJ.out
                        rw [if_neg hn] at hpe
                        subst hpe
                        have hn3 : ¬ 1000 ≤ n := hn
                        clear HPJ HPC HSFP
                        have ST3 := hide ((ST11.out).put hX (HOWN.out) 5 (.int .i64 (max a6 pt)))
                        have HS12 := hide ((HS11.out).base (max a6 pt))
                        go_upto_region 30 with fail
                        generalize World.setCell w11 _ _ = w12 at *
                        clear ST11 HS11 y0 y1 y2 y3 y4 y5 y6 yz
                        obtain ⟨y0, y1, y2, y3, y4, y5, y6⟩ := (HS12.out).cells
                        go_wp2_with (first
                          | (go_at_call 36; refine ((CRA.out) a1 a2 a3 q a5 (max a6 pt) a7 _).mono ?_; rintro e w8 ⟨rfl, hb8⟩; have ST5 := hide ((ST3.out).next hb8); clear hb8)
                          | (at_builtin; refine wpList_append_own _ rfl _ _ 22 rfl w6.heap.size 32 i1 _ 7 56 Try.underlying22 hinf1 hw0 hw1 hw2 rfl (by decide) _ _ _ rfl ((ST5.out).alloc _).own ⟨w8.heap.size, 0, none⟩ 1 1 (szC ⟨a1, a2, a3, q, a5, max a6 pt, max a7 (max a6 pt)⟩).toList rfl rfl (cell_sev_new22 _ _ _ rfl _ _ _ _ _ _ _) (by simp [szC, Value.oneCell']) (by unfold maxLen; omega) (by (try simp); omega) (by (try simp); have := (ST5.out).bel.size; omega) ?_))
                        intro v' w9 hown' hgrow _
                        have ST7 := hide ((ST5.out).push (s := ⟨a1, a2, a3, q, a5, max a6 pt, max a7 (max a6 pt)⟩) hown' hgrow)
                        clear hown' hgrow ST3 ST5
                        go_wp2_with fail
                        go_roundw
                        case rel => exact ⟨j + 1, acc ++ [⟨a1, a2, a3, q, a5, max a6 pt, max a7 (max a6 pt)⟩], by omega, by go_num, hide (by rw [List.length_append, HAL.out]; rfl), HSN2, ST7⟩
                        case measure => simp [intOf]; omega
                · have hi2 : ¬ (j : Int) < (k : Int) := by omega
                  have hac := HAC.out
                  rw [show j = k by omega] at hac
                  have HV3 : Hid (R = acc) := hide (by rw [HV1.out, hac])
                  clear hac HAC HV1 HPT
                  go_wp2_with fail
                  go_ret
                  exact ⟨_, rfl, by rw [HV3.out]; exact szL_own (ST.out).own, (HB7.out).trans ((ST.out).bel.mono (HB7.out).size)⟩

end Go.Proofs.Ytaonlpjfbajlcaa

namespace Go.Proofs.Ytaonlpjfbajlcaa
open Go.RowKit

/-- What those take that get nothing of what is left. -/
def uS (l : List SzD) (st : Nat → Bool) : Nat → Int := sA fun k => if flx l k && !st k then 0 else (l.getD k noSz).base

def xS (l : List SzD) (st : Nat → Bool) (space : Int) (N : Nat) : RsD := ⟨lf26 l st space N, 0, sm26 l st N⟩

theorem lf26_sum {l : List SzD} {st : Nat → Bool} {space : Int} (h0 : 0 ≤ space) : ∀ k, (∀ j, j < k → 0 ≤ (l.getD j noSz).base) → lf26 l st space k = max (space - uS l st k) 0 ∧ 0 ≤ uS l st k
  | 0, _ => by
    have e : uS l st 0 = 0 := rfl
    simp only [lf26, e]
    omega
  | k + 1, h => by
    obtain ⟨h1, h2⟩ := lf26_sum (st := st) h0 k (fun j hj => h j (by omega))
    have h3 := h k (by omega)
    have e : uS l st (k + 1) = uS l st k + if flx l k && !st k then 0 else (l.getD k noSz).base := rfl
    simp only [lf26]
    rw [e]
    split <;> omega

theorem sm26_eq (l : List SzD) (st : Nat → Bool) (k : Nat) : sm26 l st k = sA (fun k => if flx l k && !st k then (l.getD k noSz).fr else 0) k := (sm26_sA l st k).symm

/-- Of a smaller share whoever is stiff stays so. -/
theorem stf_ratio {x y : RsD} {s : SzD} (hr : y.left * rsP x ≤ x.left * rsP y) (hf : 0 ≤ s.fr) (h : stf x s = true) : stf y s = true := by
  have h1 := of_decide_eq_true h
  apply decide_eq_true
  have hP : 0 < rsP x := by unfold rsP; omega
  have hP' : 0 < rsP y := by unfold rsP; omega
  generalize rsP x = P at *
  generalize rsP y = P' at *
  generalize y.left = L' at *
  generalize x.left = L at *
  have a1 : L' * P * s.fr ≤ L * P' * s.fr := Int.mul_le_mul_of_nonneg_right hr hf
  have a2 : L * s.fr * P' < s.base * P * P' := Int.mul_lt_mul_of_pos_right h1 hP'
  have r1 : L * P' * s.fr = L * s.fr * P' := by rw [Int.mul_assoc, Int.mul_comm P' s.fr, ← Int.mul_assoc]
  have r2 : L' * P * s.fr = L' * s.fr * P := by rw [Int.mul_assoc, Int.mul_comm P s.fr, ← Int.mul_assoc]
  have r3 : s.base * P * P' = s.base * P' * P := by rw [Int.mul_assoc, Int.mul_comm P P', ← Int.mul_assoc]
  have a3 : L' * s.fr * P < s.base * P' * P := by omega
  exact Int.lt_of_mul_lt_mul_right a3 (Int.le_of_lt hP)

/-- What B takes beyond A. -/
def dB (l : List SzD) (A B : Nat → Bool) : Nat → Int := sA fun k => if flx l k && (B k && !A k) then (l.getD k noSz).base else 0

def dF (l : List SzD) (A B : Nat → Bool) : Nat → Int := sA fun k => if flx l k && (B k && !A k) then (l.getD k noSz).fr else 0

theorem split_sets {l : List SzD} {A B : Nat → Bool} {N : Nat} (hAB : ∀ k, k < N → A k = true → B k = true) : uS l B N = uS l A N + dB l A B N ∧ sm26 l A N = sm26 l B N + dF l A B N := by
  constructor
  · unfold uS dB
    rw [sA_plus]
    refine sA_ext N (fun k hk => ?_)
    have h := hAB k hk
    cases hf : flx l k <;> cases ha : A k <;> cases hb : B k <;> simp [ha, hb] at h ⊢
  · rw [sm26_eq, sm26_eq]
    unfold dF
    rw [sA_plus]
    refine sA_ext N (fun k hk => ?_)
    have h := hAB k hk
    cases hf : flx l k <;> cases ha : A k <;> cases hb : B k <;> simp [ha, hb] at h ⊢

theorem sum_less {l : List SzD} {A B : Nat → Bool} {L P : Int} : ∀ N, (∀ k, k < N → 0 ≤ (l.getD k noSz).base ∧ 0 ≤ (l.getD k noSz).fr) → (∀ k, k < N → flx l k = true → B k = true → A k = false → L * (l.getD k noSz).fr ≤ (l.getD k noSz).base * P) → L * dF l A B N ≤ dB l A B N * P ∧ 0 ≤ dF l A B N ∧ 0 ≤ dB l A B N
  | 0, _, _ => by
    have e1 : dF l A B 0 = 0 := rfl
    have e2 : dB l A B 0 = 0 := rfl
    rw [e1, e2, Int.mul_zero, Int.zero_mul]
    omega
  | N + 1, hg, h => by
    obtain ⟨h1, h2, h3⟩ := sum_less N (fun k hk => hg k (by omega)) (fun k hk => h k (by omega))
    have e1 : dF l A B (N + 1) = dF l A B N + if flx l N && (B N && !A N) then (l.getD N noSz).fr else 0 := rfl
    have e2 : dB l A B (N + 1) = dB l A B N + if flx l N && (B N && !A N) then (l.getD N noSz).base else 0 := rfl
    have hgN := hg N (by omega)
    rw [e1, e2]
    by_cases hc : (flx l N && (B N && !A N)) = true
    · rw [if_pos hc, if_pos hc, Int.mul_add, Int.add_mul]
      simp only [Bool.and_eq_true, Bool.not_eq_true'] at hc
      have h4 := h N (by omega) hc.1 hc.2.1 hc.2.2
      omega
    · rw [if_neg hc, if_neg hc, Int.add_zero, Int.add_zero]
      exact ⟨h1, h2, h3⟩

/-- Where those that come besides are stiff at the end, the share has not grown. -/
theorem ratio_end {l : List SzD} {A B : Nat → Bool} {space : Int} {N : Nat} (h0 : 0 ≤ space) (hg : ∀ k, k < N → 0 ≤ (l.getD k noSz).base ∧ 0 ≤ (l.getD k noSz).fr) (hAB : ∀ k, k < N → A k = true → B k = true)
    (hs : ∀ k, k < N → flx l k = true → B k = true → A k = false → stf (xS l B space N) (l.getD k noSz) = true) : (xS l B space N).left * rsP (xS l A space N) ≤ (xS l A space N).left * rsP (xS l B space N) := by
  obtain ⟨e1, e2⟩ := split_sets (l := l) hAB
  obtain ⟨lb, -⟩ := lf26_sum (l := l) (st := B) h0 N (fun k hk => (hg k hk).1)
  obtain ⟨la, -⟩ := lf26_sum (l := l) (st := A) h0 N (fun k hk => (hg k hk).1)
  obtain ⟨s1, s2, s3⟩ := sum_less (l := l) (A := A) (B := B) (L := (xS l B space N).left) (P := rsP (xS l B space N)) N hg (fun k hk hf hb ha => by
    have h := of_decide_eq_true (hs k hk hf hb ha)
    omega)
  have ea : (xS l A space N).left = lf26 l A space N := rfl
  have eb : (xS l B space N).left = lf26 l B space N := rfl
  have pa : rsP (xS l A space N) = max (sm26 l A N) 1000 := rfl
  have pb : rsP (xS l B space N) = max (sm26 l B N) 1000 := rfl
  rw [eb] at s1 ⊢
  rw [ea, pa]
  rw [pb] at s1 ⊢
  have hLB : 0 ≤ lf26 l B space N := by rw [lb]; omega
  have hPP : max (sm26 l A N) 1000 ≤ max (sm26 l B N) 1000 + dF l A B N := by omega
  have a1 := Int.mul_le_mul_of_nonneg_left hPP hLB
  rw [Int.mul_add] at a1
  by_cases hz : lf26 l B space N = 0
  · rw [hz, Int.zero_mul]
    have hLA : 0 ≤ lf26 l A space N := by rw [la]; omega
    exact Int.mul_nonneg hLA (by omega)
  · have hLA : lf26 l A space N = lf26 l B space N + dB l A B N := by rw [la, lb] at *; omega
    rw [hLA, Int.add_mul]
    omega

/-- Where they are stiff at the beginning, likewise. -/
theorem ratio_begin {l : List SzD} {A B : Nat → Bool} {space : Int} {N : Nat} (h0 : 0 ≤ space) (hg : ∀ k, k < N → 0 ≤ (l.getD k noSz).base ∧ 0 ≤ (l.getD k noSz).fr) (hAB : ∀ k, k < N → A k = true → B k = true)
    (hs : ∀ k, k < N → flx l k = true → B k = true → A k = false → stf (xS l A space N) (l.getD k noSz) = true) : (xS l B space N).left * rsP (xS l A space N) ≤ (xS l A space N).left * rsP (xS l B space N) := by
  obtain ⟨e1, e2⟩ := split_sets (l := l) hAB
  obtain ⟨lb, -⟩ := lf26_sum (l := l) (st := B) h0 N (fun k hk => (hg k hk).1)
  obtain ⟨la, -⟩ := lf26_sum (l := l) (st := A) h0 N (fun k hk => (hg k hk).1)
  obtain ⟨s1, s2, s3⟩ := sum_less (l := l) (A := A) (B := B) (L := (xS l A space N).left) (P := rsP (xS l A space N)) N hg (fun k hk hf hb ha => by
    have h := of_decide_eq_true (hs k hk hf hb ha)
    omega)
  have ea : (xS l A space N).left = lf26 l A space N := rfl
  have eb : (xS l B space N).left = lf26 l B space N := rfl
  have pa : rsP (xS l A space N) = max (sm26 l A N) 1000 := rfl
  have pb : rsP (xS l B space N) = max (sm26 l B N) 1000 := rfl
  rw [ea] at s1 ⊢
  rw [eb, pb]
  rw [pa] at s1 ⊢
  have hLA : 0 ≤ lf26 l A space N := by rw [la]; omega
  have hPP : max (sm26 l A N) 1000 - dF l A B N ≤ max (sm26 l B N) 1000 := by omega
  have a1 := Int.mul_le_mul_of_nonneg_left hPP hLA
  rw [Int.mul_sub] at a1
  by_cases hz : lf26 l B space N = 0
  · rw [hz, Int.zero_mul]
    exact Int.mul_nonneg hLA (by omega)
  · have hLB : lf26 l B space N = lf26 l A space N - dB l A B N := by rw [la, lb] at *; omega
    rw [hLB, Int.sub_mul]
    omega

end Go.Proofs.Ytaonlpjfbajlcaa

namespace Go.Proofs.Ytaonlpjfbajlcaa
open Go.RowKit

theorem prt_stf (l : List SzD) (st : Nat → Bool) (space : Int) (N i : Nat) : decide (prt l st space N i < (l.getD i noSz).base) = stf (xS l st space N) (l.getD i noSz) := by
  unfold prt stf
  have hp : rsP (xS l st space N) = max (sm26 l st N) 1000 := rfl
  have hl : (xS l st space N).left = lf26 l st space N := rfl
  rw [hp, hl]
  exact decide_eq_decide.2 (Int.ediv_lt_iff_lt_mul (by omega))

theorem stF_succ (l : List SzD) (space : Int) (N t k : Nat) : stF l space N (t + 1) k = (stF l space N t k || (flx l k && stf (xS l (stF l space N t) space N) (l.getD k noSz))) := by
  show nxS l space N (stF l space N t) k = _
  unfold nxS
  rw [prt_stf]

/-- A set that is stiff by itself, and nobody else: all turns stay within it. -/
theorem stF_within {l : List SzD} {S : Nat → Bool} {space : Int} {N : Nat} (h0 : 0 ≤ space) (hg : ∀ k, k < N → 0 ≤ (l.getD k noSz).base ∧ 0 ≤ (l.getD k noSz).fr) (hS : ∀ k, k < N → S k = (flx l k && stf (xS l S space N) (l.getD k noSz))) : ∀ t k, k < N → stF l space N t k = true → S k = true
  | 0, k, _, h => by exact absurd h (by simp [stF])
  | t + 1, k, hk, h => by
    rw [stF_succ, Bool.or_eq_true, Bool.and_eq_true] at h
    rcases h with h | ⟨hf, hs⟩
    · exact stF_within h0 hg hS t k hk h
    · have hr := ratio_end (A := stF l space N t) (B := S) h0 hg (fun j hj hh => stF_within h0 hg hS t j hj hh) (fun j hj hfj hb _ => by
        have h2 := hS j hj
        rw [hb] at h2
        exact (Bool.and_eq_true _ _ ▸ h2.symm).2)
      rw [hS k hk, hf, stf_ratio hr (hg k hk).2 hs]
      rfl

/-- Each that is stiff after so many turns is so of what is left then. -/
theorem stF_self {l : List SzD} {space : Int} {N : Nat} (h0 : 0 ≤ space) (hg : ∀ k, k < N → 0 ≤ (l.getD k noSz).base ∧ 0 ≤ (l.getD k noSz).fr) : ∀ t k, k < N → stF l space N t k = true → flx l k = true ∧ stf (xS l (stF l space N t) space N) (l.getD k noSz) = true
  | 0, k, _, h => by exact absurd h (by simp [stF])
  | t + 1, k, hk, h => by
    have hup : ∀ j, j < N → stF l space N t j = true → stF l space N (t + 1) j = true := fun j _ hj => by rw [stF_succ, hj]; rfl
    have hr := ratio_begin (A := stF l space N t) (B := stF l space N (t + 1)) h0 hg hup (fun j hj hfj hb ha => by
      rw [stF_succ, ha, Bool.false_or, Bool.and_eq_true] at hb
      exact hb.2)
    rw [stF_succ, Bool.or_eq_true, Bool.and_eq_true] at h
    rcases h with h | ⟨hf, hs⟩
    · obtain ⟨f1, f2⟩ := stF_self h0 hg t k hk h
      exact ⟨f1, stf_ratio hr (hg k hk).2 f2⟩
    · exact ⟨hf, stf_ratio hr (hg k hk).2 hs⟩

theorem xS_congr {l : List SzD} {A B : Nat → Bool} {space : Int} : ∀ N, (∀ k, k < N → A k = B k) → lf26 l A space N = lf26 l B space N ∧ sm26 l A N = sm26 l B N
  | 0, _ => ⟨rfl, rfl⟩
  | N + 1, h => by
    obtain ⟨h1, h2⟩ := xS_congr (l := l) (space := space) N (fun k hk => h k (by omega))
    have h3 := h N (by omega)
    simp only [lf26, sm26, h1, h2, h3]
    exact ⟨trivial, trivial⟩

theorem stF_step {l : List SzD} {space : Int} {N s t : Nat} (h : ∀ k, k < N → stF l space N s k = stF l space N t k) : ∀ k, k < N → stF l space N (s + 1) k = stF l space N (t + 1) k := fun k hk => by
  obtain ⟨h1, h2⟩ := xS_congr (l := l) (space := space) N h
  have e : xS l (stF l space N s) space N = xS l (stF l space N t) space N := by unfold xS; rw [h1, h2]
  rw [stF_succ, stF_succ, e, h k hk]

theorem cnt_more {A B : Nat → Bool} : ∀ N, (∀ k, k < N → A k = true → B k = true) → cnt A N ≤ cnt B N ∧ ((∃ k, k < N ∧ A k = false ∧ B k = true) → cnt A N + 1 ≤ cnt B N)
  | 0, _ => ⟨Nat.le_refl _, fun ⟨k, hk, _⟩ => absurd hk (Nat.not_lt_zero _)⟩
  | N + 1, h => by
    obtain ⟨h1, h2⟩ := cnt_more N (fun k hk => h k (by omega))
    have h3 := h N (by omega)
    have e1 : cnt A (N + 1) = cnt A N + if A N then 1 else 0 := rfl
    have e2 : cnt B (N + 1) = cnt B N + if B N then 1 else 0 := rfl
    rw [e1, e2]
    cases ha : A N <;> cases hb : B N <;> simp [ha, hb] at h3 ⊢
    · refine ⟨h1, fun k hk hka hkb => ?_⟩
      have : k ≠ N := fun e => by rw [e, hb] at hkb; exact absurd hkb (by decide)
      exact h2 ⟨k, by omega, hka, hkb⟩
    · refine ⟨by omega, fun k hk hka hkb => by omega⟩
    · refine ⟨h1, fun k hk hka hkb => ?_⟩
      have : k ≠ N := fun e => by rw [e, ha] at hka; exact absurd hka (by decide)
      exact h2 ⟨k, by omega, hka, hkb⟩

/-- Some turn adds nobody. -/
theorem stF_stop (l : List SzD) (space : Int) (N : Nat) : ∀ t, (∃ s, s < t ∧ ∀ k, k < N → stF l space N (s + 1) k = stF l space N s k) ∨ t ≤ cnt (stF l space N t) N
  | 0 => .inr (Nat.zero_le _)
  | t + 1 => by
    rcases stF_stop l space N t with ⟨s, hs, h⟩ | h
    · exact .inl ⟨s, by omega, h⟩
    · by_cases he : ∀ k, k < N → stF l space N (t + 1) k = stF l space N t k
      · exact .inl ⟨t, by omega, he⟩
      · refine .inr ?_
        obtain ⟨k, hk⟩ := Classical.not_forall.1 he
        obtain ⟨hkN, hne⟩ := Classical.not_imp.1 hk
        have h2 := (cnt_more (A := stF l space N t) (B := stF l space N (t + 1)) N (fun j _ hj => by rw [stF_succ, hj]; rfl)).2 ⟨k, hkN, by
          cases ha : stF l space N t k
          · rfl
          · exact absurd (by rw [stF_succ, ha]; rfl) hne, by
          cases ha : stF l space N t k
          · cases hb : stF l space N (t + 1) k
            · exact absurd (by rw [ha, hb]) hne
            · rfl
          · rw [stF_succ, ha]; rfl⟩
        omega

theorem stF_on {l : List SzD} {space : Int} {N s : Nat} (h : ∀ k, k < N → stF l space N (s + 1) k = stF l space N s k) : ∀ d k, k < N → stF l space N (s + d) k = stF l space N s k
  | 0, k, _ => rfl
  | d + 1, k, hk => by
    have h1 := stF_step (s := s + d) (t := s) (fun j hj => stF_on h d j hj) k hk
    exact h1.trans (h k hk)

/-- After all turns one more adds nobody. -/
theorem unS_closed {l : List SzD} {space : Int} (k : Nat) (hk : k < l.length) (hf : flx l k = true) (hs : stf (xS l (unS l space) space l.length) (l.getD k noSz) = true) : unS l space k = true := by
  have hc := cnt_le (stF l space l.length (l.length + 1)) l.length
  rcases stF_stop l space l.length (l.length + 1) with ⟨s, hs1, h⟩ | h
  · have e1 := stF_on h (l.length + 1 - s) k hk
    have e2 := stF_on h (l.length + 1 - s + 1) k hk
    rw [show s + (l.length + 1 - s) = l.length + 1 by omega] at e1
    rw [show s + (l.length + 1 - s + 1) = l.length + 1 + 1 by omega, stF_succ] at e2
    have hs' : stf (xS l (stF l space l.length (l.length + 1)) space l.length) (l.getD k noSz) = true := hs
    rw [hf, hs'] at e2
    show stF l space l.length (l.length + 1) k = true
    rw [e1, ← e2]
    simp
  · omega

end Go.Proofs.Ytaonlpjfbajlcaa

namespace Go.Proofs.Ytaonlpjfbajlcaa
open Go.RowKit

theorem rsT_snoc (l : List SzD) : ∀ (t : List Nat) (i : Nat) (x : RsD), rsT l (t ++ [i]) x = rs2 (rsT l t x) (l.getD i noSz)
  | [], _, _ => rfl
  | j :: t, i, x => rsT_snoc l t i (rs2 x (l.getD j noSz))

/-- One behind the other, each of them as long as it is stiff. -/
theorem grd_gen {l : List SzD} {N : Nat} {x0 : RsD} {os : List Nat} {Q : Nat → Prop} (hr : ∀ i ∈ os, i < N)
    (hq : ∀ t i r, os = t ++ i :: r → (∀ j ∈ t, Q j) → stf (rsT l t x0) (l.getD i noSz) = true → Q i) :
    ∀ (r t0 : List Nat), os = t0 ++ r → (∀ j ∈ t0, Q j) → ∃ t d, os = t ++ d ∧ grd l 0 N r (rsT l t0 x0) = rsT l t x0 ∧ (∀ i ∈ t, Q i) ∧ ∀ j d', d = j :: d' → stf (rsT l t x0) (l.getD j noSz) = false
  | [], t0, e, h => ⟨t0, [], e, rfl, h, fun j d' hd => by cases hd⟩
  | i :: r, t0, e, h => by
    have hi : i < N := hr i (by rw [e]; simp)
    have hg : grd l 0 N (i :: r) (rsT l t0 x0) = if i < 0 ∨ N ≤ i then grd l 0 N r (rsT l t0 x0) else if stf (rsT l t0 x0) (l.getD i noSz) = true then grd l 0 N r (rs2 (rsT l t0 x0) (l.getD i noSz)) else rsT l t0 x0 := rfl
    rw [if_neg (by omega)] at hg
    by_cases hs : stf (rsT l t0 x0) (l.getD i noSz) = true
    · rw [if_pos hs, ← rsT_snoc] at hg
      have hQ := hq t0 i r e h hs
      obtain ⟨t, d, h1, h2, h3, h4⟩ := grd_gen hr hq r (t0 ++ [i]) (by rw [e, List.append_assoc]; rfl) (fun j hj => by
        rcases List.mem_append.1 hj with hj | hj
        · exact h j hj
        · rw [List.mem_singleton.1 hj]; exact hQ)
      exact ⟨t, d, h1, hg.trans h2, h3, h4⟩
    · rw [if_neg hs] at hg
      exact ⟨t0, i :: r, e, hg, h, fun j d' hd => by
        injection hd with h1 _
        rw [← h1]
        simpa using hs⟩

theorem isOr_flx {l : List SzD} {k : Nat} (h : isOr l k = true) : flx l k = true ∧ 0 < (l.getD k noSz).base := by
  unfold isOr at h
  rw [Bool.and_eq_true, decide_eq_true_eq] at h
  exact h

/-- What is left by so many of the order's first, in sums over a set. -/
theorem rsT_set {l : List SzD} {space : Int} {os t r : List Nat} (h0 : 0 ≤ space) (hg : ∀ k, k < l.length → 0 ≤ (l.getD k noSz).base ∧ 0 ≤ (l.getD k noSz).fr) (hm : os.Perm (orL l l.length)) (e : os = t ++ r) :
    (rsT l t (rsA l 0 space l.length)).left = lf26 l (fun k => decide (k ∈ t)) space l.length ∧ (rsT l t (rsA l 0 space l.length)).fr = sm26 l (fun k => decide (k ∈ t)) l.length := by
  obtain ⟨a0, a1, a2⟩ := rsA_sum (l := l) (a := 0) h0 l.length (fun k hk => by rw [Nat.zero_add]; exact (hg k hk).1)
  have hnd : os.Nodup := hm.symm.nodup (List.Pairwise.filter _ List.nodup_range)
  have hos : ∀ i ∈ os, i < l.length ∧ isOr l i = true := fun i hi => by
    have h1 := hm.mem_iff.1 hi
    unfold orL at h1
    rw [List.mem_filter, List.mem_range] at h1
    exact h1
  have htm : ∀ i ∈ t, i ∈ os := fun i hi => by rw [e]; exact List.mem_append_left _ hi
  have hperm : t.Perm ((List.range l.length).filter (fun k => decide (k ∈ t))) := by
    have h1 : os.filter (fun k => decide (k ∈ t)) = t := by
      rw [e] at hnd
      rw [e, List.filter_append, List.filter_eq_self.2 (fun i hi => by simpa using hi), List.filter_eq_nil_iff.2 (fun i hi => by
        have h2 := (List.nodup_append.1 hnd).2.2
        simp only [decide_eq_true_eq]
        intro hit
        exact h2 i hit i hi rfl), List.append_nil]
    have h2 := hm.filter (fun k => decide (k ∈ t))
    rw [h1] at h2
    unfold orL at h2
    rw [List.filter_filter] at h2
    have h3 : (List.range l.length).filter (fun k => decide (k ∈ t) && isOr l k) = (List.range l.length).filter (fun k => decide (k ∈ t)) := by
      apply List.filter_congr
      intro k _
      by_cases hk : k ∈ t
      · rw [(hos k (htm k hk)).2, Bool.and_true]
      · simp [hk]
    rw [h3] at h2
    exact h2
  obtain ⟨s0, s1, s2, -⟩ := rsT_sum (l := l) t (rsA l 0 space l.length) (by rw [a1]; omega) (fun i hi => (hg i (hos i (htm i hi)).1).1)
  rw [baS_perm hperm, baS_filter] at s0 s1
  rw [frS_perm hperm, frS_filter] at s2
  obtain ⟨la, -⟩ := lf26_sum (l := l) (st := fun k => decide (k ∈ t)) h0 l.length (fun k hk => (hg k hk).1)
  rw [nfS_sA] at a0 a1
  rw [ffS_sA] at a2
  have eb : uS l (fun k => decide (k ∈ t)) l.length = sA (fun k => if ((l.getD k noSz).mx == 5) = true then 0 else (l.getD k noSz).base) l.length + sA (fun k => if decide (k ∈ t) = true then (l.getD k noSz).base else 0) l.length := by
    unfold uS
    rw [sA_plus]
    refine sA_ext l.length (fun k hk => ?_)
    show (if flx l k && !decide (k ∈ t) then 0 else (l.getD k noSz).base) = (if flx l k = true then 0 else (l.getD k noSz).base) + _
    by_cases hk2 : k ∈ t
    · rw [(isOr_flx (hos k (htm k hk2)).2).1, decide_eq_true hk2]; simp
    · rw [decide_eq_false hk2]
      cases flx l k <;> simp
  have ef : sm26 l (fun k => decide (k ∈ t)) l.length = sA (fun k => if ((l.getD k noSz).mx == 5) = true then (l.getD k noSz).fr else 0) l.length - sA (fun k => if decide (k ∈ t) = true then (l.getD k noSz).fr else 0) l.length := by
    rw [sm26_eq, sA_less]
    refine sA_ext l.length (fun k hk => ?_)
    show (if flx l k && !decide (k ∈ t) then (l.getD k noSz).fr else 0) = (if flx l k = true then (l.getD k noSz).fr else 0) - _
    by_cases hk2 : k ∈ t
    · rw [(isOr_flx (hos k (htm k hk2)).2).1, decide_eq_true hk2]; simp
    · rw [decide_eq_false hk2]
      cases flx l k <;> simp
  refine ⟨?_, ?_⟩
  · rw [s1, a1, la, eb]; omega
  · rw [s2, a2, ef]

theorem fbB_alt (l : List SzD) (X : RsD) (k : Nat) : (flx l k && !(flx l k && stf X (l.getD k noSz))) = fbB l X k := by
  unfold fbB flx
  generalize ((l.getD k noSz).mx == 5) = m
  generalize stf X (l.getD k noSz) = s
  cases m <;> cases s <;> rfl

theorem stf_same {x y : RsD} (h1 : x.left = y.left) (h2 : x.fr = y.fr) (s : SzD) : stf x s = stf y s := by
  unfold stf rsP
  rw [h1, h2]

theorem stiff_same {l : List SzD} {space : Int} {ds : List (ordI l)} (hg : ∀ k, k < l.length → 0 ≤ (l.getD k noSz).base ∧ 0 ≤ (l.getD k noSz).fr) (h0 : 0 ≤ space)
    (hp : ds.Pairwise (fun x y => ltOf (cfI l) y x = false)) (hm : (ds.map (fun x => x.val)).Perm (orL l l.length)) :
    (∀ k, k < l.length → unS l space k = (flx l k && stf (rstV l 0 l.length space (ds.map (fun x => x.val))) (l.getD k noSz))) ∧
    (rstV l 0 l.length space (ds.map (fun x => x.val))).left = lf26 l (unS l space) space l.length ∧ (rstV l 0 l.length space (ds.map (fun x => x.val))).fr = sm26 l (unS l space) l.length := by
  obtain ⟨r1, r2⟩ := rest_facts hg h0 hp hm
  have hpw : (ds.map (fun x => x.val)).Pairwise (fun i j => (l.getD j noSz).base * (l.getD i noSz).fr ≤ (l.getD i noSz).base * (l.getD j noSz).fr) := by
    rw [List.pairwise_map]
    refine hp.imp (fun {x y} h => ?_)
    have h1 : ¬ (cfI l y x < 0) := by simpa [ltOf] using h
    unfold cfI at h1
    rw [cmpV_neg] at h1
    omega
  have hX : rstV l 0 l.length space (ds.map (fun x => x.val)) = grd l 0 l.length (ds.map (fun x => x.val)) (rsA l 0 space l.length) := rfl
  generalize ds.map (fun x => x.val) = os at *
  have hos : ∀ i ∈ os, i < l.length ∧ isOr l i = true := fun i hi => by
    have h1 := hm.mem_iff.1 hi
    unfold orL at h1
    rw [List.mem_filter, List.mem_range] at h1
    exact h1
  have hself := stF_self (l := l) (space := space) (N := l.length) h0 hg (l.length + 1)
  have hgen := grd_gen (l := l) (N := l.length) (x0 := rsA l 0 space l.length) (os := os) (Q := fun i => unS l space i = true) (fun i hi => (hos i hi).1) (fun t i r e hQ hs => by
    have hi : i ∈ os := by rw [e]; simp
    obtain ⟨f1, f2⟩ := rsT_set h0 hg hm e
    have hfl := (isOr_flx (hos i hi).2).1
    have hil := (hos i hi).1
    have hr := ratio_end (l := l) (A := fun k => decide (k ∈ t)) (B := unS l space) h0 hg (fun k _ hk => hQ k (by simpa using hk)) (fun k hk _ hb _ => (hself k hk hb).2)
    rw [stf_same (y := xS l (fun k => decide (k ∈ t)) space l.length) f1 f2] at hs
    exact unS_closed i hil hfl (stf_ratio hr (hg i hil).2 hs)) os [] rfl (fun j hj => by cases hj)
  obtain ⟨t, d, e, hx, htQ, hd⟩ := hgen
  have hx' : rstV l 0 l.length space os = rsT l t (rsA l 0 space l.length) := hX.trans hx
  rw [← hx'] at hd
  generalize rstV l 0 l.length space os = X at *
  have hl0 : 0 ≤ X.left := by rw [r1]; omega
  have hdn : ∀ k ∈ d, stf X (l.getD k noSz) = false := fun k hk => by
    cases d with
    | nil => cases hk
    | cons j d' =>
      have hj := hd j d' rfl
      rcases List.mem_cons.1 hk with rfl | hk
      · exact hj
      · have hjo : j ∈ os := by rw [e]; simp
        have hko : k ∈ os := by rw [e]; simp [hk]
        have h1 : (l.getD k noSz).base * (l.getD j noSz).fr ≤ (l.getD j noSz).base * (l.getD k noSz).fr := by
          rw [e] at hpw
          exact (List.pairwise_cons.1 (List.pairwise_append.1 hpw).2.1).1 k hk
        exact stf_order hj (isOr_flx (hos j hjo).2).2 (hg k (hos k hko).1).2 (hg j (hos j hjo).1).2 h1
  have hXS : X.left = lf26 l (fun k => flx l k && stf X (l.getD k noSz)) space l.length ∧ X.fr = sm26 l (fun k => flx l k && stf X (l.getD k noSz)) l.length := by
    obtain ⟨la, -⟩ := lf26_sum (l := l) (st := fun k => flx l k && stf X (l.getD k noSz)) h0 l.length (fun k hk => (hg k hk).1)
    have e1 : uS l (fun k => flx l k && stf X (l.getD k noSz)) l.length = sA (fun k => if fbB l X k then 0 else (l.getD k noSz).base) l.length := by
      unfold uS
      refine sA_ext l.length (fun k hk => ?_)
      show (if (flx l k && !(flx l k && stf X (l.getD k noSz))) = true then 0 else (l.getD k noSz).base) = _
      rw [fbB_alt]
    have e2 : sm26 l (fun k => flx l k && stf X (l.getD k noSz)) l.length = sA (fun k => if fbB l X k then (l.getD k noSz).fr else 0) l.length := by
      rw [sm26_eq]
      refine sA_ext l.length (fun k hk => ?_)
      show (if (flx l k && !(flx l k && stf X (l.getD k noSz))) = true then (l.getD k noSz).fr else 0) = _
      rw [fbB_alt]
    exact ⟨by rw [la, e1, r1], by rw [e2, r2]⟩
  have hSS : ∀ k, k < l.length → (fun k => flx l k && stf X (l.getD k noSz)) k = (flx l k && stf (xS l (fun k => flx l k && stf X (l.getD k noSz)) space l.length) (l.getD k noSz)) := fun k _ => by
    rw [← stf_same (x := X) (y := xS l (fun k => flx l k && stf X (l.getD k noSz)) space l.length) hXS.1 hXS.2]
  have hall : ∀ k, k < l.length → unS l space k = (flx l k && stf X (l.getD k noSz)) := fun k hk => by
    cases hu : unS l space k
    · cases hf : flx l k
      · rfl
      · cases hs : stf X (l.getD k noSz)
        · rfl
        · have hb : 0 < (l.getD k noSz).base := by
            by_cases hz : (l.getD k noSz).base = 0
            · rw [stf_none hl0 (hg k hk).2 hz] at hs
              exact absurd hs (by decide)
            · have := (hg k hk).1
              omega
          have hko : k ∈ os := hm.mem_iff.2 (by
            unfold orL
            rw [List.mem_filter, List.mem_range]
            refine ⟨hk, ?_⟩
            unfold isOr
            rw [decide_eq_true hb, Bool.and_true]
            exact hf)
          rw [e] at hko
          rcases List.mem_append.1 hko with h1 | h1
          · rw [htQ k h1] at hu
            exact absurd hu (by decide)
          · rw [hdn k h1] at hs
            exact absurd hs (by decide)
    · exact (stF_within h0 hg hSS (l.length + 1) k hk hu).symm
  obtain ⟨c1, c2⟩ := xS_congr (l := l) (space := space) l.length hall
  exact ⟨hall, by rw [hXS.1, c1], by rw [hXS.2, c2]⟩

end Go.Proofs.Ytaonlpjfbajlcaa

namespace Go.Proofs.Ytaonlpjfbajlcaa
open Go.RowKit

theorem lsV_sum {f : Nat → Int} {n : Int} (h0 : 0 ≤ n) : ∀ k, (∀ j, j < k → 0 ≤ f j) → lsV n f k = max (n - sA f k) 0 ∧ 0 ≤ sA f k
  | 0, _ => by simp only [lsV, sA]; omega
  | k + 1, h => by
    obtain ⟨h1, h2⟩ := lsV_sum h0 k (fun j hj => h j (by omega))
    have h3 := h k (by omega)
    simp only [lsV, sA]
    rw [h1]
    omega

theorem cnt_up (b : Nat → Bool) : ∀ d k : Nat, cnt b k ≤ cnt b (k + d)
  | 0, k => Nat.le_refl _
  | d + 1, k => by
    have h1 := cnt_up b d k
    show cnt b k ≤ cnt b (k + d) + if b (k + d) then 1 else 0
    omega

/-- The parts of the first ones together. -/
def eS (l : List SzD) (b : Nat → Bool) (k : Nat) : Int := sA (fun i => if b i then (l.getD i noSz).fr else 0) k

theorem frL_take (l : List SzD) (b : Nat → Bool) : ∀ d k : Nat, (frL l b (k + d)).take (cnt b k) = frL l b k
  | 0, k => by rw [Nat.add_zero, ← frL_len l b k]; exact List.take_length
  | d + 1, k => by
    show (if b (k + d) then frL l b (k + d) ++ [(l.getD (k + d) noSz).fr] else frL l b (k + d)).take (cnt b k) = _
    split
    · rw [List.take_append_of_le_length (by rw [frL_len]; exact cnt_up b d k)]
      exact frL_take l b d k
    · exact frL_take l b d k

theorem frL_sum (l : List SzD) (b : Nat → Bool) : ∀ k : Nat, (frL l b k).sum = eS l b k
  | 0 => rfl
  | k + 1 => by
    have e : eS l b (k + 1) = eS l b k + if b k then (l.getD k noSz).fr else 0 := rfl
    rw [e]
    unfold frL
    split
    · rw [List.sum_append, frL_sum l b k]; simp
    · rw [frL_sum l b k]; omega

theorem frL_wsum {l : List SzD} {b : Nat → Bool} {N k : Nat} (hk : k ≤ N) : wsum (frL l b N) (cnt b k) = eS l b k := by
  have h := frL_take l b (N - k) k
  rw [show k + (N - k) = N by omega] at h
  unfold wsum
  rw [h, frL_sum]

theorem step28 (x y b : Int) (hb : 0 < b) : y / b ≤ (x + y) / b - x / b ∧ (x + y) / b - x / b ≤ y / b + 1 := by
  have h1 := Int.mul_ediv_add_emod x b
  have h2 := Int.mul_ediv_add_emod y b
  have a1 := Int.emod_nonneg x (show b ≠ 0 by omega)
  have a2 := Int.emod_lt_of_pos x hb
  have a3 := Int.emod_nonneg y (show b ≠ 0 by omega)
  have a4 := Int.emod_lt_of_pos y hb
  rw [Int.mul_comm] at h1 h2
  have l1 : x / b + y / b ≤ (x + y) / b := Int.le_ediv_of_mul_le hb (by rw [Int.add_mul]; omega)
  have l2 : (x + y) / b < x / b + y / b + 2 := Int.ediv_lt_of_lt_mul hb (by rw [Int.add_mul, Int.add_mul]; omega)
  omega

/-- What one gets. -/
def gotV (l : List SzD) (b : Nat → Bool) (x : RsD) (k : Nat) : Int := if 1000 ≤ x.fr then x.left * eS l b (k + 1) / x.fr - x.left * eS l b k / x.fr else x.left * (l.getD k noSz).fr / 1000

theorem shP_at {l : List SzD} {b : Nat → Bool} {x : RsD} {N : Nat} (hN : N ≤ 65536) (hfr : x.fr = eS l b N) (h0 : 0 ≤ x.left) (h1 : x.left ≤ 68719476736) (hg : ∀ k, k < N → 0 ≤ (l.getD k noSz).fr ∧ (l.getD k noSz).fr ≤ 1073741824) :
    (shP x (frL l b N)).length = cnt b N ∧ ∀ k, k < N → b k = true → (shP x (frL l b N)).getD (cnt b k) 0 = gotV l b x k := by
  have hlt : ∀ k, k < N → b k = true → cnt b k < cnt b N := fun k hk hb => by
    have h2 := cnt_up b (N - (k + 1)) (k + 1)
    rw [show k + 1 + (N - (k + 1)) = N by omega] at h2
    have h3 : cnt b (k + 1) = cnt b k + if b k then 1 else 0 := rfl
    rw [hb] at h3
    simp at h3
    omega
  have hcl := cnt_le b N
  unfold shP gotV
  by_cases hf : 1000 ≤ x.fr
  · have hok : (frL l b N).all okW = true := all_upto (fun j hj => by
      obtain ⟨q, hq, -, -, e⟩ := frL_mem hj
      rw [e]
      exact decide_eq_true (hg q hq))
    have hw : weighV (frL l b N) = eS l b N := by
      unfold weighV
      rw [if_pos ⟨by rw [frL_len]; omega, hok⟩, frL_sum]
    rw [if_pos hf]
    unfold shV
    rw [if_pos ⟨h0, h1, by rw [hw]; omega⟩]
    refine ⟨by unfold shareV shareUp; rw [List.length_map, List.length_range, frL_len], fun k hk hb => ?_⟩
    rw [if_pos hf]
    unfold shareV
    rw [share_at (by rw [frL_len]; exact hlt k hk hb)]
    unfold shareAt cum
    have e1 : cnt b k + 1 = cnt b (k + 1) := by
      have h3 : cnt b (k + 1) = cnt b k + if b k then 1 else 0 := rfl
      rw [hb] at h3
      simpa using h3.symm
    rw [e1, frL_wsum (by omega), frL_wsum (by omega), frL_sum, hfr]
  · rw [if_neg hf]
    refine ⟨by rw [List.length_map, frL_len], fun k hk hb => ?_⟩
    rw [if_neg hf]
    have hkl : cnt b k < (frL l b N).length := by rw [frL_len]; exact hlt k hk hb
    obtain ⟨q, hq, hbq, hcq, e⟩ := frL_mem hkl
    obtain rfl : q = k := cnt_inj hbq hb hcq
    rw [← e]
    simp [List.getD_eq_getElem?_getD, List.getElem?_eq_getElem hkl]

/-- The new bases. -/
def nbV (l : List SzD) (b : Nat → Bool) (x : RsD) (k : Nat) : Int := if b k then gotV l b x k else (l.getD k noSz).base

theorem got_bd {l : List SzD} {x : RsD} {k : Nat} (hb : fbB l x k = true) : (l.getD k noSz).base ≤ gotV l (fbB l x) x k ∧ (if 1000 ≤ x.fr then x.left * (l.getD k noSz).fr / x.fr else x.left * (l.getD k noSz).fr / 1000) ≤ gotV l (fbB l x) x k ∧ gotV l (fbB l x) x k ≤ (if 1000 ≤ x.fr then x.left * (l.getD k noSz).fr / x.fr else x.left * (l.getD k noSz).fr / 1000) + 1 := by
  have hs : stf x (l.getD k noSz) = false := by
    unfold fbB at hb
    rw [Bool.and_eq_true] at hb
    simpa using hb.2
  have hs2 : (l.getD k noSz).base * max x.fr 1000 ≤ x.left * (l.getD k noSz).fr := by
    have h := of_decide_eq_false hs
    unfold rsP at h
    omega
  unfold gotV
  by_cases hf : 1000 ≤ x.fr
  · rw [if_pos hf, if_pos hf]
    rw [Int.max_eq_left hf] at hs2
    have e : eS l (fbB l x) (k + 1) = eS l (fbB l x) k + (l.getD k noSz).fr := by
      show eS l (fbB l x) k + (if fbB l x k then (l.getD k noSz).fr else 0) = _
      rw [if_pos hb]
    have h := step28 (x.left * eS l (fbB l x) k) (x.left * (l.getD k noSz).fr) x.fr (by omega)
    rw [e, Int.mul_add]
    have h2 : (l.getD k noSz).base ≤ x.left * (l.getD k noSz).fr / x.fr := Int.le_ediv_of_mul_le (by omega) hs2
    omega
  · rw [if_neg hf, if_neg hf]
    rw [Int.max_eq_right (by omega)] at hs2
    have h2 : (l.getD k noSz).base ≤ x.left * (l.getD k noSz).fr / 1000 := Int.le_ediv_of_mul_le (by omega) hs2
    omega

/-- What all of them get. -/
theorem got_sum {l : List SzD} {b : Nat → Bool} {x : RsD} {N : Nat} (hfr : x.fr = eS l b N) (h0 : 0 ≤ x.left) (hg : ∀ k, k < N → 0 ≤ (l.getD k noSz).fr) :
    sA (fun k => if b k then gotV l b x k else 0) N ≤ x.left ∧ (1000 ≤ x.fr → sA (fun k => if b k then gotV l b x k else 0) N = x.left) := by
  have heS : ∀ k, k ≤ N → 0 ≤ eS l b k := by
    intro k
    induction k with
    | zero => intro _; exact Int.le_refl _
    | succ k ih =>
      intro hk
      have h1 := ih (by omega)
      have h2 := hg k (by omega)
      show 0 ≤ eS l b k + (if b k then (l.getD k noSz).fr else 0)
      split <;> omega
  by_cases hf : 1000 ≤ x.fr
  · have ht : ∀ k, sA (fun k => if b k then gotV l b x k else 0) k = x.left * eS l b k / x.fr := by
      intro k
      induction k with
      | zero =>
        show (0 : Int) = x.left * 0 / x.fr
        rw [Int.mul_zero, Int.zero_ediv]
      | succ k ih =>
        show sA (fun k => if b k then gotV l b x k else 0) k + (if b k then gotV l b x k else 0) = _
        rw [ih]
        cases hb : b k
        · have e : eS l b (k + 1) = eS l b k := by
            show eS l b k + (if b k then (l.getD k noSz).fr else 0) = _
            rw [hb]
            simp
          rw [e]
          simp
        · unfold gotV
          rw [if_pos hf]
          simp only [if_true]
          omega
    have e : sA (fun k => if b k then gotV l b x k else 0) N = x.left := by
      rw [ht N, ← hfr, Int.mul_ediv_cancel _ (by omega)]
    exact ⟨by rw [e]; exact Int.le_refl _, fun _ => e⟩
  · have ht : ∀ k, k ≤ N → sA (fun k => if b k then gotV l b x k else 0) k * 1000 ≤ x.left * eS l b k := by
      intro k
      induction k with
      | zero =>
        intro _
        show (0 : Int) * 1000 ≤ x.left * 0
        rw [Int.mul_zero]
        decide
      | succ k ih =>
        intro hk
        have h1 := ih (by omega)
        have e : eS l b (k + 1) = eS l b k + (if b k then (l.getD k noSz).fr else 0) := rfl
        show (sA (fun k => if b k then gotV l b x k else 0) k + (if b k then gotV l b x k else 0)) * 1000 ≤ _
        rw [e, Int.mul_add, Int.add_mul]
        cases hb : b k
        · simp
          exact h1
        · have e2 : gotV l b x k = x.left * (l.getD k noSz).fr / 1000 := by
            unfold gotV
            rw [if_neg hf]
          simp only [if_true]
          rw [e2]
          have := Int.ediv_mul_le (x.left * (l.getD k noSz).fr) (show (1000 : Int) ≠ 0 by decide)
          omega
    refine ⟨?_, fun h => absurd h hf⟩
    have h1 := ht N (Nat.le_refl _)
    rw [← hfr] at h1
    have h2 : x.left * x.fr ≤ x.left * 1000 := Int.mul_le_mul_of_nonneg_left (by omega) h0
    omega

end Go.Proofs.Ytaonlpjfbajlcaa

namespace Go.Proofs.Ytaonlpjfbajlcaa
open Go.RowKit

theorem spF_lsV (f : Nat → Int) (size : Int) : ∀ k, spF f size k = lsV size f k
  | 0 => rfl
  | k + 1 => by
    simp only [spF, lsV]
    rw [spF_lsV f size k]
    omega

theorem wsum_range (g : Nat → Int) (N k : Nat) (hk : k ≤ N) : wsum ((List.range N).map g) k = sA g k := by
  unfold wsum
  rw [← List.map_take, List.take_range, Nat.min_eq_left hk, sum_range]

theorem mdV_thousand {r f : Int} (h0 : 0 ≤ r) (h1 : r ≤ 68719476736) (hf : 0 ≤ f ∧ f ≤ 1073741824) : (mdV r f 1000).1 = r * f / 1000 := by
  have hp : 0 ≤ r * f := Int.mul_nonneg h0 hf.1
  have hq : r * f ≤ 68719476736 * 1073741824 := Int.mul_le_mul h1 hf.2 hf.1 (by omega)
  unfold mdV fitV
  rw [if_neg (by decide), Int.fdiv_eq_ediv_of_nonneg _ (by decide)]
  rw [if_pos (by omega)]

/-- What one gets, both ways. -/
theorem pt_got {l : List SzD} {st : Nat → Bool} {X : RsD} (hN : l.length ≤ 65536) (hg : ∀ k, k < l.length → 0 ≤ (l.getD k noSz).fr ∧ (l.getD k noSz).fr ≤ 1073741824) (h0 : 0 ≤ X.left) (h1 : X.left ≤ 68719476736)
    (hfr : X.fr = sm26 l st l.length) (hb : ∀ k, k < l.length → (flx l k && !st k) = fbB l X k) (k : Nat) (hk : k < l.length) : ptF l st X.left l.length k = gotV l (fbB l X) X k := by
  have he : ∀ j, j ≤ l.length → sA (wtF l st) j = eS l (fbB l X) j := fun j hj => by
    unfold eS
    refine sA_ext j (fun i hi => ?_)
    unfold wtF
    rw [hb i (by omega)]
  unfold ptF gotV
  by_cases hf : 1000 ≤ X.fr
  · rw [if_pos hf, if_pos (by omega)]
    have hok : ((List.range l.length).map (wtF l st)).all okW = true := by
      rw [List.all_eq_true]
      intro x hx
      obtain ⟨k, hk, rfl⟩ := List.mem_map.1 hx
      have := hg k (List.mem_range.1 hk)
      unfold okW wtF
      generalize (l.getD k noSz).fr = y at this ⊢
      split <;> simp <;> omega
    have hs : ((List.range l.length).map (wtF l st)).sum = X.fr := by rw [sum_range, sm26_sA, hfr]
    have hw : weighV ((List.range l.length).map (wtF l st)) = X.fr := by
      unfold weighV
      rw [if_pos ⟨by simp; omega, hok⟩, hs]
    unfold shV
    rw [if_pos ⟨h0, h1, by rw [hw]; omega⟩]
    unfold shareV
    rw [share_at (by simpa using hk)]
    unfold shareAt cum
    rw [hs, wsum_range _ _ _ (by omega), wsum_range _ _ _ (by omega), he _ (by omega), he _ (by omega)]
  · rw [if_neg hf, if_neg (by omega), mdV_thousand h0 h1 (hg k hk)]

theorem fiL_map (l : List SzD) (st : Nat → Bool) (r : Int) (N : Nat) : ∀ k, fiL l st r N k = (List.range k).map (fiV l st r N)
  | 0 => rfl
  | k + 1 => by
    simp only [fiL]
    rw [fiL_map l st r N k, List.range_succ, List.map_append]
    rfl

theorem rgF_good {l : List SzD} {M : Nat} {f : Nat → Int} {size : Int} : (rgF l size = true ∧ good24 l M f [] 0 = true) ↔ good26 l M f [] size = true := by
  constructor
  · rintro ⟨h1, h2⟩
    unfold rgF at h1
    rw [Bool.and_eq_true] at h1
    unfold good26
    rw [h2, h1.2, Bool.true_and, Bool.true_and, List.all_eq_true]
    intro s hs
    obtain ⟨k, hk, rfl⟩ := List.mem_iff_getElem.1 hs
    have e : l[k] = l.getD k noSz := by rw [List.getD_eq_getElem?_getD, List.getElem?_eq_getElem hk]; rfl
    obtain ⟨g1, g2⟩ := rt26_at h1.1 k hk
    rw [e]
    unfold isSz
    rw [g2, decide_eq_true (good_base g1).1]
    rfl
  · intro h
    have h' := h
    unfold good26 at h
    rw [Bool.and_eq_true, Bool.and_eq_true] at h
    refine ⟨?_, h.1⟩
    obtain ⟨-, hgs, -, -⟩ := good26_parts h'
    unfold rgF
    rw [h.2.1, Bool.and_true]
    cases hr : rt26 l l.length
    · exfalso
      have hn : ∀ N, N ≤ l.length → rt26 l N = true := by
        intro N
        induction N with
        | zero => intro _; rfl
        | succ n ih =>
          intro hn
          have g := hgs n (by omega)
          have g1 := (good_base g.1).1
          simp only [rt26]
          rw [ih (by omega), g.1]
          simp only [Bool.true_and]
          exact decide_eq_true ⟨by omega, g.2.2⟩
      rw [hn _ (Nat.le_refl _)] at hr
      exact absurd hr (by decide)
    · rfl

theorem raise_good26 {s : SzD} (h : goodS s = true) : raiseV s = s := by
  have h1 := (good_base h).2.2.1
  unfold raiseV
  rw [Int.max_eq_left h1]

theorem fill_same {l out : List SzD} {M : Nat} {f : Nat → Int} {size : Int} (hN : l.length ≤ 65536) (hq : FillQ l M f size out) : out = fillW l M f size := by
  unfold fillW
  rcases hq with ⟨h, rfl⟩ | ⟨h, ds, hp, hm, rfl⟩
  · rw [if_neg (fun hh => by rw [rgF_good.1 hh] at h; exact absurd h (by decide))]
  · rw [if_pos (rgF_good.2 h)]
    obtain ⟨hM, hgs, hz0, hz1⟩ := good26_parts h
    subst hM
    have hg1 : ∀ k, k < l.length → 0 ≤ (l.getD k noSz).base ∧ 0 ≤ (l.getD k noSz).fr := fun k hk => ⟨(good_base (hgs k hk).1).1, (good_fr (hgs k hk).1).1⟩
    have hg2 : ∀ k, k < l.length → 0 ≤ (l.getD k noSz).fr ∧ (l.getD k noSz).fr ≤ 1073741824 := fun k hk => good_fr (hgs k hk).1
    obtain ⟨ls1, ls2⟩ := lsV_sum (f := f) hz0 l.length (fun k hk => (isSz_bd (hgs k hk).2.1).1)
    have hsp0 : 0 ≤ lsV size f l.length := by rw [ls1]; omega
    have hsp1 : lsV size f l.length ≤ 68719476736 := by rw [ls1]; omega
    obtain ⟨c1, c2, c3⟩ := stiff_same (space := lsV size f l.length) hg1 hsp0 hp hm
    obtain ⟨r1, r2⟩ := rest_facts (space := lsV size f l.length) hg1 hsp0 hp hm
    rw [spF_lsV, fiL_map, ← c2]
    unfold fillO
    generalize rstV l 0 l.length (lsV size f l.length) (ds.map (fun x => x.val)) = X at *
    have hl0 : 0 ≤ X.left := by rw [r1]; omega
    have hNB : 0 ≤ uS l (unS l (lsV size f l.length)) l.length := (lf26_sum hsp0 l.length (fun k hk => (hg1 k hk).1)).2
    have hl1 : X.left ≤ 68719476736 := by
      have h2 := (lf26_sum (l := l) (st := unS l (lsV size f l.length)) hsp0 l.length (fun k hk => (hg1 k hk).1)).1
      rw [c2, h2]
      omega
    have hbb : ∀ k, k < l.length → (flx l k && !unS l (lsV size f l.length) k) = fbB l X k := fun k hk => by rw [c1 k hk, fbB_alt]
    obtain ⟨pl, pg⟩ := shP_at (N := l.length) hN (show X.fr = eS l (fbB l X) l.length from r2) hl0 hl1 hg2
    apply List.map_congr_left
    intro k hk
    have hk' := List.mem_range.1 hk
    unfold flG fiV
    rw [hbb k hk', pt_got hN hg2 hl0 hl1 c3 hbb k hk']
    cases hb : fbB l X k
    · simp only [Bool.false_and, Bool.false_eq_true, if_false]
      exact (raise_good26 (hgs k hk').1).symm
    · have hc : cnt (fbB l X) k < (shP X (frL l (fbB l X) l.length)).length := by rw [pl]; exact cnt_lt hk' hb
      rw [if_pos (by simp [hc]), if_pos rfl, pg k hk' hb]
      rfl

end Go.Proofs.Ytaonlpjfbajlcaa

namespace Go.Proofs.Ytaonlpjfbajlcaa
open Go.RowKit

theorem rsA_count {l : List SzD} {space : Int} : ∀ N : Nat, (rsA l 0 space N).count = (cnt (flx l) N : Int)
  | 0 => rfl
  | N + 1 => by
    have ih := rsA_count (l := l) (space := space) N
    have e : cnt (flx l) (N + 1) = cnt (flx l) N + if flx l N then 1 else 0 := rfl
    rw [e]
    simp only [rsA, rs1, Nat.zero_add]
    have e2 : ((l.getD N noSz).mx == 5) = flx l N := rfl
    rw [e2]
    cases hf : flx l N
    · simp only [Bool.false_eq_true, if_false]
      rw [ih]; rfl
    · simp only [if_true]
      rw [ih]; push_cast; rfl

theorem filter_cnt (p : Nat → Bool) : ∀ N : Nat, ((List.range N).filter p).length = cnt p N
  | 0 => rfl
  | N + 1 => by
    have e : cnt p (N + 1) = cnt p N + if p N then 1 else 0 := rfl
    rw [List.range_succ, List.filter_append, List.length_append, filter_cnt p N, e]
    cases h : p N <;> simp [h]

theorem cnt_split (a b c : Nat → Bool) : ∀ N : Nat, (∀ k, k < N → a k = (b k || c k) ∧ (b k && c k) = false) → cnt a N = cnt b N + cnt c N
  | 0, _ => rfl
  | N + 1, h => by
    have ih := cnt_split a b c N (fun k hk => h k (by omega))
    obtain ⟨h1, h2⟩ := h N (by omega)
    have e1 : cnt a (N + 1) = cnt a N + if a N then 1 else 0 := rfl
    have e2 : cnt b (N + 1) = cnt b N + if b N then 1 else 0 := rfl
    have e3 : cnt c (N + 1) = cnt c N + if c N then 1 else 0 := rfl
    rw [e1, e2, e3, ih, h1]
    cases hb : b N <;> cases hc : c N <;> simp [hb, hc] at h2 ⊢ <;> omega

/-- How many are left: those that are not stiff at the end. -/
theorem rest_count {l : List SzD} {space : Int} {ds : List (ordI l)} (hg : ∀ k, k < l.length → 0 ≤ (l.getD k noSz).base ∧ 0 ≤ (l.getD k noSz).fr) (h0 : 0 ≤ space)
    (hp : ds.Pairwise (fun x y => ltOf (cfI l) y x = false)) (hm : (ds.map (fun x => x.val)).Perm (orL l l.length)) :
    (rstV l 0 l.length space (ds.map (fun x => x.val))).count = (cnt (fbB l (rstV l 0 l.length space (ds.map (fun x => x.val)))) l.length : Int) := by
  obtain ⟨r1, -⟩ := rest_facts hg h0 hp hm
  obtain ⟨a0, a1, a2⟩ := rsA_sum (l := l) (a := 0) h0 l.length (fun k hk => by rw [Nat.zero_add]; exact (hg k hk).1)
  have hac := rsA_count (l := l) (space := space) l.length
  have hpw : (ds.map (fun x => x.val)).Pairwise (fun i j => (l.getD j noSz).base * (l.getD i noSz).fr ≤ (l.getD i noSz).base * (l.getD j noSz).fr) := by
    rw [List.pairwise_map]
    refine hp.imp (fun {x y} h => ?_)
    have h1 : ¬ (cfI l y x < 0) := by simpa [ltOf] using h
    unfold cfI at h1
    rw [cmpV_neg] at h1
    omega
  have hX : rstV l 0 l.length space (ds.map (fun x => x.val)) = grd l 0 l.length (ds.map (fun x => x.val)) (rsA l 0 space l.length) := rfl
  generalize ds.map (fun x => x.val) = os at *
  have hos : ∀ i ∈ os, i < l.length ∧ isOr l i = true := fun i hi => by
    have h1 := hm.mem_iff.1 hi
    unfold orL at h1
    rw [List.mem_filter, List.mem_range] at h1
    exact h1
  obtain ⟨t, d, e, hx, -, hd⟩ := grd_gen (l := l) (N := l.length) (x0 := rsA l 0 space l.length) (os := os) (Q := fun _ => True) (fun i hi => (hos i hi).1) (fun _ _ _ _ _ _ => trivial) os [] rfl (fun j hj => by cases hj)
  obtain ⟨t2, d2, e2, hx2, ht2, hd2, -⟩ := grd_end (N := l.length) os (rsA l 0 space l.length) (by rw [a1]; omega) (fun i hi => ⟨(hos i hi).1, (isOr_flx (hos i hi).2).2, (hg i (hos i hi).1).2⟩) (by
    obtain ⟨f1, f2⟩ := rsT_set (t := os) (r := []) h0 hg hm (by simp)
    obtain ⟨-, -, s2, -⟩ := rsT_sum (l := l) os (rsA l 0 space l.length) (by rw [a1]; omega) (fun i hi => (hg i (hos i hi).1).1)
    rw [f2] at s2
    have h3 : 0 ≤ sm26 l (fun k => decide (k ∈ os)) l.length := by
      rw [sm26_eq]
      have hb : ∀ N, N ≤ l.length → 0 ≤ sA (fun k => if flx l k && !decide (k ∈ os) then (l.getD k noSz).fr else 0) N := by
        intro N
        induction N with
        | zero => intro _; exact Int.le_refl _
        | succ n ih =>
          intro hn
          have h1 := ih (by omega)
          have h2 := (hg n (by omega)).2
          show 0 ≤ sA _ n + (if flx l n && !decide (n ∈ os) then (l.getD n noSz).fr else 0)
          split <;> omega
      exact hb _ (Nat.le_refl _)
    omega) hpw
  have hgr : grd l 0 l.length os (rsA l 0 space l.length) = rstV l 0 l.length space os := hX.symm
  rw [hgr] at hx2 ht2 hd2
  generalize rstV l 0 l.length space os = X at *
  have hl0 : 0 ≤ X.left := by rw [r1]; omega
  obtain ⟨-, -, -, s3⟩ := rsT_sum (l := l) t2 (rsA l 0 space l.length) (by rw [a1]; omega) (fun i hi => (hg i (hos i (by rw [e2]; exact List.mem_append_left _ hi)).1).1)
  rw [← hx2, hac] at s3
  have hperm : t2.Perm ((List.range l.length).filter (fun k => isOr l k && stf X (l.getD k noSz))) := by
    have h1 : (t2 ++ d2).filter (fun k => stf X (l.getD k noSz)) = t2 := by
      rw [List.filter_append, List.filter_eq_self.2 ht2, List.filter_eq_nil_iff.2 (fun i hi => by rw [hd2 i hi]; decide), List.append_nil]
    have h2 : ((t2 ++ d2).filter (fun k => stf X (l.getD k noSz))).Perm ((orL l l.length).filter (fun k => stf X (l.getD k noSz))) := (e2 ▸ hm).filter _
    rw [h1] at h2
    unfold orL at h2
    rw [List.filter_filter] at h2
    have h3 : (fun k => stf X (l.getD k noSz) && isOr l k) = (fun k => isOr l k && stf X (l.getD k noSz)) := funext fun k => Bool.and_comm _ _
    rw [h3] at h2
    exact h2
  have hlen := hperm.length_eq
  rw [filter_cnt] at hlen
  have hsp := cnt_split (flx l) (fbB l X) (fun k => isOr l k && stf X (l.getD k noSz)) l.length (fun k hk => by
    have hn := stf_none (x := X) (s := l.getD k noSz) hl0 (hg k hk).2
    have hb0 := (hg k hk).1
    unfold isOr fbB flx
    by_cases hz : (l.getD k noSz).base = 0
    · have hs := hn hz
      rw [hs, hz]
      cases h5 : ((l.getD k noSz).mx == 5) <;> simp
    · have hd : decide (0 < (l.getD k noSz).base) = true := decide_eq_true (by omega)
      rw [hd]
      cases h5 : ((l.getD k noSz).mx == 5) <;> cases hs : stf X (l.getD k noSz) <;> simp)
  rw [s3, hlen, hsp]
  push_cast
  omega

theorem is26_cnt (l : List SzD) (st : Nat → Bool) : ∀ N : Nat, is26 l st N = decide (0 < cnt (fun k => flx l k && !st k) N)
  | 0 => rfl
  | N + 1 => by
    have ih := is26_cnt l st N
    have e : cnt (fun k => flx l k && !st k) (N + 1) = cnt (fun k => flx l k && !st k) N + if flx l N && !st N then 1 else 0 := rfl
    simp only [is26, e, ih]
    by_cases hc : (flx l N && !st N) = true
    · rw [if_pos hc, hc]
      simp
    · rw [if_neg hc, Bool.eq_false_iff.2 hc]
      simp

end Go.Proofs.Ytaonlpjfbajlcaa

namespace Go.Proofs.Ytaonlpjfbajlcaa
open Go.RowKit

theorem up_dv {a c : Int} (h0 : 0 ≤ a) (h1 : a ≤ 68719476736) (hc : 1 ≤ c) : upV a 1000 c = dvU (a * 1000) c := by
  unfold upV dvU mdV fitV
  have e : (0 - a) * 1000 = -(a * 1000) := by omega
  have l1 : -(a * 1000) ≤ (-(a * 1000)) / c := by
    apply Int.le_ediv_of_mul_le (by omega)
    have h2 : -(a * 1000) * c ≤ -(a * 1000) * 1 := Int.mul_le_mul_of_nonpos_left (by omega) hc
    omega
  have l2 : (-(a * 1000)) / c ≤ 0 := by
    have := Int.ediv_le_ediv (c := c) (by omega) (show -(a * 1000) ≤ 0 by omega)
    rwa [Int.zero_ediv] at this
  rw [if_neg (by omega), Int.fdiv_eq_ediv_of_nonneg _ (by omega), e, if_pos (by omega)]
  omega

theorem rgF_good0 {l : List SzD} {space : Int} (h : rgF l space = true) : good26 l l.length (fun _ => 0) [] space = true := by
  refine rgF_good.1 ⟨h, ?_⟩
  unfold rgF at h
  rw [Bool.and_eq_true] at h
  have ht : ∀ N, N ≤ l.length → tg24 l (fun _ => 0) N = true := by
    intro N
    induction N with
    | zero => intro _; rfl
    | succ n ih =>
      intro hn
      have g := rt26_at h.1 n (by omega)
      simp only [tg24]
      rw [ih (by omega), g.1]
      rfl
  unfold good24 hd24
  rw [ht _ (Nat.le_refl _), decide_eq_true rfl]
  rfl

theorem unit_none {l : List SzD} {space : Int} (h : good26 l l.length (fun _ => 0) [] space = false) : unV l space = 0 := by
  unfold unV
  rw [if_neg (fun hh => by rw [rgF_good0 hh.1] at h; exact absurd h (by decide))]

theorem cnt_ext {a b : Nat → Bool} : ∀ N : Nat, (∀ k, k < N → a k = b k) → cnt a N = cnt b N
  | 0, _ => rfl
  | N + 1, h => by
    have ih := cnt_ext N (fun k hk => h k (by omega))
    have e1 : cnt a (N + 1) = cnt a N + if a N then 1 else 0 := rfl
    have e2 : cnt b (N + 1) = cnt b N + if b N then 1 else 0 := rfl
    rw [e1, e2, ih, h N (by omega)]

theorem unit_same {l : List SzD} {space : Int} {ds : List (ordI l)} (h : good26 l l.length (fun _ => 0) [] space = true) (hp : ds.Pairwise (fun x y => ltOf (cfI l) y x = false)) (hm : (ds.map (fun x => x.val)).Perm (orL l l.length)) :
    unV26 (rstV l 0 l.length space (ds.map (fun x => x.val))) = unV l space := by
  obtain ⟨hr, -⟩ := rgF_good.2 h
  obtain ⟨-, hgs, hz0, hz1⟩ := good26_parts h
  have hg1 : ∀ k, k < l.length → 0 ≤ (l.getD k noSz).base ∧ 0 ≤ (l.getD k noSz).fr := fun k hk => ⟨(good_base (hgs k hk).1).1, (good_fr (hgs k hk).1).1⟩
  obtain ⟨c1, c2, c3⟩ := stiff_same hg1 hz0 hp hm
  obtain ⟨r1, -⟩ := rest_facts hg1 hz0 hp hm
  have hcn := rest_count hg1 hz0 hp hm
  unfold unV unV26
  rw [is26_cnt, ← c2, ← c3]
  generalize rstV l 0 l.length space (ds.map (fun x => x.val)) = X at *
  have he := cnt_ext (a := fun k => flx l k && !unS l space k) (b := fbB l X) l.length (fun k hk => by
    show (flx l k && !unS l space k) = fbB l X k
    rw [c1 k hk, fbB_alt])
  rw [he]
  have hl0 : 0 ≤ X.left := by rw [r1]; omega
  have hl1 : X.left ≤ 68719476736 := by
    have h2 := (lf26_sum (l := l) (st := unS l space) hz0 l.length (fun k hk => (hg1 k hk).1))
    rw [c2, h2.1]
    omega
  by_cases hc : X.count = 0
  · rw [if_pos hc, if_neg (fun hh => by
      have h2 := of_decide_eq_true hh.2
      omega)]
  · rw [if_neg hc, if_pos ⟨hr, decide_eq_true (by omega)⟩, up_dv hl0 hl1 (by omega)]
    rfl

end Go.Proofs.Ytaonlpjfbajlcaa
