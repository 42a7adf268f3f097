/- Texts that this proof stands on, put together. -/
import Derived.Test.YtaogioogpodmkaaSzC
import Derived.Test.YtaogioogpodmkaaBas6
import Derived.Test.YtaogioogpodmkaaG1
import Derived.Deep.AppendLies

namespace Go.Proofs.Ytaogioogpodmkaa
open Go.RowKit

/-- What stands while tracks are looked at. -/
structure MxS (w W : World) (v : Value) (l : List SzD) : Prop where
  l : SzL W v l
  bel : Below w.heap.size w W

theorem MxS.start {w : World} {v : Value} {l : List SzD} (h : SzL w v l) : MxS w w v l := ⟨h, Below.refl _ _⟩

theorem MxS.next {w W W' : World} {v : Value} {l : List SzD} (h : MxS w W v l) (hb : Below W.heap.size W W') : MxS w W' v l := ⟨h.l.below hb, h.bel.trans (hb.mono h.bel.size)⟩

/-- Its cells at a place. -/
theorem SzL.at {w : World} {ao : Option Addr} {N cap : Nat} {l : List SzD} (h : SzL w (.slice ao N cap) l) {k : Nat} (hk : k < l.length) : ∃ b off, ao = some ⟨b, off, none⟩ ∧ b < w.heap.size ∧
    w.cell? ⟨b, off + k * 7, none⟩ = some (.int .i64 (l.getD k noSz).mn) ∧ w.cell? ⟨b, off + k * 7 + 1, none⟩ = some (.int .i64 (l.getD k noSz).mx) ∧ w.cell? ⟨b, off + k * 7 + 2, none⟩ = some (.int .i64 (l.getD k noSz).fr) ∧ w.cell? ⟨b, off + k * 7 + 3, none⟩ = some (.bool (l.getD k noSz).fit) ∧ w.cell? ⟨b, off + k * 7 + 4, none⟩ = some (.int .i64 (l.getD k noSz).cap) ∧ w.cell? ⟨b, off + k * 7 + 5, none⟩ = some (.int .i64 (l.getD k noSz).base) ∧ w.cell? ⟨b, off + k * 7 + 6, none⟩ = some (.int .i64 (l.getD k noSz).limit) := by
  rcases h with ⟨he, _⟩ | ⟨b, off, c1, hv, hlt, hc⟩
  · rw [he] at hk; exact absurd hk (Nat.not_lt_zero _)
  · obtain ⟨h1, -, -⟩ : ao = some ⟨b, off, none⟩ ∧ N = l.length ∧ cap = c1 := by simpa using hv
    exact ⟨b, off, h1, hlt, SzL.seven hc k hk⟩

set_option maxRecDepth 100000 in
set_option maxHeartbeats 4000000 in
theorem rgood25_any (v : Value) (l : List SzD) (w : World) (h : SzL w v l) (hN : l.length ≤ 1000000) : Calls Try.prog 16 #[v] w fun e w' => e = .returned (.bool (l.all goodS)) ∧ Below w.heap.size w w' := by
  have ST0 := hide (MxS.start h)
  obtain ⟨ao, cap, rfl⟩ := h.slice
  have CR := hide (fun a b c q e f g W (hh : MxS w W (.slice ao l.length cap) l) => (rgood22_any ⟨a, b, c, q, e, f, g⟩ W).mono fun _ _ hx => And.intro hx.1 (hh.next hx.2))
  have hA : ∀ k, k < l.length → goodS (l.getD k noSz) = false → l.all goodS = false := fun k hk hf => by
    rw [List.all_eq_false]
    exact ⟨l.getD k noSz, by rw [List.getD_eq_getElem?_getD, List.getElem?_eq_getElem hk]; exact List.getElem_mem hk, by rw [hf]; simp⟩
  have hB : (∀ k, k < l.length → goodS (l.getD k noSz) = true) → l.all goodS = true := fun h => by
    rw [List.all_eq_true]
    intro x hx
    obtain ⟨k, hk, rfl⟩ := List.mem_iff_getElem.1 hx
    have := h k hk
    rw [List.getD_eq_getElem?_getD, List.getElem?_eq_getElem hk] at this
    exact this
  have HA := hide hA
  have HB := hide hB
  generalize l.all goodS = R at *
  obtain ⟨N, hN0⟩ : ∃ N, N = l.length := ⟨_, rfl⟩
  rw [← hN0] at ST0 CR HA HB hN ⊢
  have HN := hide hN0
  unfold szC at CR
  simp only at CR
  clear hN0 h hA hB
  go_enter Try.func16, Try.ntmps16
  go_wp2_with fail
  go_loopw [3] (fun i wr => ∃ k : Nat, k ≤ N ∧ i = .int .i64 (k : Int) ∧ Hid (∀ j, j < k → goodS (l.getD j noSz) = true) ∧ Hid (MxS w wr (.slice ao N cap) l)) (fun i _ => (N - intOf i).toNat)
  case atStart => exact ⟨0, Nat.zero_le _, by go_num, hide (fun j hj => by omega), ST0⟩
  case round =>
    clear ST0
    obtain ⟨k, hk, rfl, HP, ST⟩ := hrel
    by_cases hkl : k < N
    · have hi : (k : Int) < (N : Int) := by omega
      have hn2 : ¬ (k : Int) < 0 := by omega
      have hkl2 : k < l.length := by rw [← HN.out]; exact hkl
      obtain ⟨b, off, rfl, hlt, x0, x1, x2, x3, x4, x5, x6⟩ := (ST.out).l.at hkl2
      have hhit := (HA.out) k hkl
      have hP2 : goodS (l.getD k noSz) = true → ∀ j, j < k + 1 → goodS (l.getD j noSz) = true := fun hh j hj => by
        rcases Nat.lt_or_ge j k with h1 | h1
        · exact (HP.out) j h1
        · obtain rfl : j = k := by omega
          exact hh
      generalize l.getD k noSz = x at x0 x1 x2 x3 x4 x5 x6 hhit hP2
      obtain ⟨a1, a2, a3, q, a5, a6, a7⟩ := x
      have C1 := hide (fun W h => (CR.out) a1 a2 a3 q a5 a6 a7 W h)
      generalize goodS ⟨a1, a2, a3, q, a5, a6, a7⟩ = OB at hhit hP2 C1
      simp only at x0 x1 x2 x3 x4 x5 x6
      have HH2 := hide hhit
      have HP2 := hide hP2
      clear hhit hP2 CR HA HP
      go_wp2_with fail
      refine Calls.mono ((C1.out) _ ST.out) ?_
      rintro ee w3 ⟨rfl, hs⟩
      have ST3 := hide hs
      clear hs ST C1 x0 x1 x2 x3 x4 x5 x6
      cases OB
      · have HV : Hid (R = false) := hide ((HH2.out) rfl)
        clear HP2 HH2 HB
        go_wp2_with fail
        go_ret
        exact ⟨by rw [HV.out] <;> rfl, (ST3.out).bel⟩
      · have HP3 := hide ((HP2.out) rfl)
        clear HP2 HH2
        go_wp2_with fail
        go_roundw
        case rel => exact ⟨k + 1, by omega, by go_num, HP3, ST3⟩
        case measure => simp [intOf]; omega
    · have hi : ¬ (k : Int) < (N : Int) := by omega
      have hv := (HB.out) (fun j hj => (HP.out) j (by omega))
      have HV := hide hv
      clear hv HB HA
      go_wp2_with fail
      go_ret
      exact ⟨by rw [HV.out] <;> rfl, (ST.out).bel⟩

set_option maxRecDepth 100000 in
set_option maxHeartbeats 1000000 in
theorem rwithin25_any (n : Int) (w : World) : Calls Try.prog 22 #[.int .i64 n] w fun e w' => e = .returned (.bool (isSz n)) ∧ w' = w := by
  have HL := hide (isSz_iff n)
  go_enter Try.func22, Try.ntmps22
  go_wp2
  all_goals (go_ret; refine ⟨?_, rfl⟩; rw [HL.out]; exact bret22 (by simp_all <;> omega))

end Go.Proofs.Ytaogioogpodmkaa

namespace Go.Proofs.Ytaogioogpodmkaa
open Go.RowKit

theorem MxS.drewN {w W : World} {v : Value} {l : List SzD} (h : MxS w W v l) (k : Nat) : MxS w (W.drewN k) v l :=
  h.next ⟨rfl, rfl, rfl, Nat.le_refl _, fun _ _ => rfl⟩

theorem good_base {s : SzD} (h : goodS s = true) : 0 ≤ s.base ∧ s.base ≤ 1125899906842623 ∧ s.base ≤ s.limit ∧ s.limit ≤ 1125899906842624 := by
  obtain ⟨a, b, c, q, e, f, g⟩ := s
  obtain ⟨_, _, _, _, _, _, _, h8, h9, h10⟩ := (goodS_iff a b c e f g q).1 h
  exact ⟨h8.1, h8.2, h10, h9⟩

theorem all_good {l : List SzD} (h : l.all goodS = true) (k : Nat) (hk : k < l.length) : goodS (l.getD k noSz) = true := by
  rw [List.all_eq_true] at h
  have : l.getD k noSz = l[k] := by rw [List.getD_eq_getElem?_getD, List.getElem?_eq_getElem hk]; rfl
  rw [this]
  exact h _ (List.getElem_mem hk)

/-- All of the first are lengths from nothing on. -/
def szS (f : Nat → Int) : Nat → Bool
  | 0 => true
  | k + 1 => szS f k && isSz (f k)

theorem szS_at {f : Nat → Int} : ∀ {N : Nat}, szS f N = true → ∀ k, k < N → isSz (f k) = true
  | 0, _, k, hk => absurd hk (Nat.not_lt_zero _)
  | N + 1, h, k, hk => by
    simp only [szS, Bool.and_eq_true] at h
    by_cases e : k = N
    · subst e; exact h.2
    · exact szS_at h.1 k (by omega)

theorem szS_not {f : Nat → Int} {k : Nat} : ∀ {N : Nat}, k < N → isSz (f k) = false → szS f N = false
  | 0, hk, _ => absurd hk (Nat.not_lt_zero _)
  | N + 1, hk, h => by
    simp only [szS]
    by_cases e : k = N
    · subst e; rw [h]; simp
    · rw [szS_not (by omega) h]; rfl

theorem isSz_bd {n : Int} (h : isSz n = true) : 0 ≤ n ∧ n ≤ 68719476736 := by
  rw [isSz_iff] at h
  simpa using h

/-- What a track has, with the gap ahead of it. -/
def tB (l : List SzD) (f : Nat → Int) (k : Nat) : Int := (l.getD k noSz).base + f k

/-- What all tracks and gaps have. -/
def totV (l : List SzD) (M : Nat) (f : Nat → Int) : Int × Int :=
  if l.all goodS = true ∧ M = l.length ∧ szS f l.length = true then (if sA (tB l f) l.length ≤ 68719476736 then (sA (tB l f) l.length, 0) else (0, 10)) else (0, 2)

theorem tB_bd {l : List SzD} {f : Nat → Int} (h1 : l.all goodS = true) (h2 : szS f l.length = true) (k : Nat) (hk : k < l.length) : 0 ≤ tB l f k := by
  have a := good_base (all_good h1 k hk)
  have b := isSz_bd (szS_at h2 k hk)
  unfold tB
  omega

theorem sA_le_of {x : Nat → Int} {N : Nat} (h : ∀ k, k < N → 0 ≤ x k) : ∀ d k, k + d = N → sA x k ≤ sA x N
  | 0, k, e => by rw [show k = N by omega]; exact Int.le_refl _
  | d + 1, k, e => by
    have h1 := sA_le_of h d (k + 1) (by omega)
    have h2 := h k (by omega)
    simp only [sA] at h1
    omega

set_option maxRecDepth 100000 in
set_option maxHeartbeats 8000000 in
theorem rtotal25_any (v : Value) (l : List SzD) (aa : Option Addr) (M ca : Nat) (f : Nat → Int) (w : World) (h : SzL w v l) (ha : ArI w aa M f) (hN : l.length ≤ 1000000) :
    Calls Try.prog 8 #[v, .slice aa M ca] w fun e w' => e = .returned (.tuple #[.int .i64 (totV l M f).1, .int .i64 (totV l M f).2]) ∧ Below w.heap.size w w' := by
  have CG := hide (rgood25_any v l w h hN)
  have HS := hide h
  have HA := hide ha
  obtain ⟨ao, cap, rfl⟩ := h.slice
  have HR : Hid (totV l M f = if l.all goodS = true ∧ M = l.length ∧ szS f l.length = true then (if sA (tB l f) l.length ≤ 68719476736 then (sA (tB l f) l.length, 0) else (0, 10)) else (0, 2)) := hide rfl
  have hgd : l.all goodS = true → ∀ k, k < l.length → goodS (l.getD k noSz) = true := fun h k hk => all_good h k hk
  have HGD := hide hgd
  have HTB := hide (fun (h1 : l.all goodS = true) (h2 : szS f l.length = true) k (hk : k < l.length) => tB_bd h1 h2 k hk)
  generalize totV l M f = R at *
  generalize l.all goodS = G at *
  obtain ⟨N, hN0⟩ : ∃ N, N = l.length := ⟨_, rfl⟩
  rw [← hN0] at CG HR HGD HTB hN HS
  rw [← hN0]
  have HNL := hide hN0
  clear h ha hgd hN0
  cases G
  · have HV : Hid (R = (0, 2)) := hide (by rw [HR.out, if_neg (fun hh => by have := hh.1; exact absurd this (by decide))])
    clear HR HGD HTB
    go_enter Try.func8, Try.ntmps8
    go_wp2_with fail
    refine Calls.mono CG.out ?_
    rintro e w1 ⟨rfl, hb⟩
    have HB := hide hb
    clear hb
    go_wp2_with fail
    go_ret2
    exact ⟨by rw [HV.out] <;> rfl, HB.out⟩
  · by_cases hMN : M = N
    · subst hMN
      have hnn : ((M : Int) != (M : Int)) = false := by simp
      go_enter Try.func8, Try.ntmps8
      go_wp2_with fail
      refine Calls.mono CG.out ?_
      rintro e w1 ⟨rfl, hb⟩
      have ST := hide (MxS.mk ((HS.out).below hb) hb)
      have HA1 := hide ((HA.out).below hb)
      clear hb CG
      go_wp2_with fail
      go_loop [6] (fun i => ∃ k : Nat, k ≤ M ∧ i = .int .i64 (k : Int) ∧ Hid (szS f k = true)) (fun i => M - (intOf i).toNat)
      case atStart => exact ⟨0, Nat.zero_le _, by go_num, hide rfl⟩
      case round =>
        obtain ⟨k, hk, rfl, HP⟩ := hrel
        by_cases hkl : k < M
        · have hi : (k : Int) < (M : Int) := by omega
          have hn2 : ¬ (k : Int) < 0 := by omega
          obtain ⟨b, off, rfl, hc⟩ := (HA1.out).at hkl
          have HSS : Hid (szS f (k + 1) = (szS f k && isSz (f k))) := hide rfl
          have HNO := hide (fun h => szS_not (f := f) hkl h)
          have CW := hide (fun W => rwithin25_any (f k) W)
          generalize isSz (f k) = Z at *
          generalize f k = x at *
          clear HTB HGD
          cases Z
          · have HV : Hid (R = (0, 2)) := hide (by rw [HR.out, if_neg (fun hh => by have h1 := hh.2.2; rw [(HNO.out) rfl] at h1; exact absurd h1 (by decide))])
            clear HR HNO HSS HP
            go_wp2_with (go_at_call 22; refine ((CW.out) _).mono ?_; rintro e w' ⟨rfl, hw⟩; subst w')
            go_ret2
            exact ⟨by rw [HV.out] <;> rfl, (ST.out).bel⟩
          · have HP2 : Hid (szS f (k + 1) = true) := hide (by rw [HSS.out, HP.out]; rfl)
            clear HNO HSS HP
            go_wp2_with (go_at_call 22; refine ((CW.out) _).mono ?_; rintro e w' ⟨rfl, hw⟩; subst w')
            go_round
            case rel => exact ⟨k + 1, by omega, by go_num, HP2⟩
            case measure => simp [intOf]; omega
        · have hi : ¬ (k : Int) < (M : Int) := by omega
          have hp := HP.out
          rw [show k = M by omega] at hp
          have HV0 : Hid (R = if sA (tB l f) M ≤ 68719476736 then (sA (tB l f) M, 0) else (0, 10)) := hide (by rw [HR.out, if_pos ⟨by trivial, by trivial, hp⟩])
          have HGB := hide (fun k hk => good_base ((HGD.out) (by trivial) k hk))
          have HAB := hide (fun k hk => isSz_bd (szS_at hp k hk))
          have HMO := hide (fun k (hk : k ≤ M) => sA_le_of (fun j hj => (HTB.out) (by trivial) hp j hj) (M - k) k (by omega))
          clear hp HP HR HTB HGD
          go_wp2_with fail
          go_loopw [7, 8] (fun n i wr => ∃ (k : Nat) (A : Int), k ≤ M ∧ i = .int .i64 (k : Int) ∧ n = .int .i64 A ∧ 0 ≤ A ∧ A ≤ 68719476736 ∧ Hid (A = sA (tB l f) k) ∧ Hid (MxS w wr (.slice ao M cap) l)) (fun _ i _ => M - (intOf i).toNat)
          case atStart => exact ⟨0, 0, Nat.zero_le _, by go_num, by go_num, by omega, by omega, hide rfl, ST⟩
          case round =>
            clear ST
            obtain ⟨k, A, hk, rfl, rfl, hA0, hA1, HAE, ST⟩ := hrel
            by_cases hkl : k < M
            · have hi : (k : Int) < (M : Int) := by omega
              have hn2 : ¬ (k : Int) < 0 := by omega
              have hkL : k < l.length := by rw [← HNL.out]; exact hkl
              obtain ⟨b, off, rfl, hlt, x0, x1, x2, x3, x4, x5, x6⟩ := (ST.out).l.at hkL
              obtain ⟨b', off', rfl, hb', hc'⟩ := (HA.out).at2 hkl
              have e1 := ((ST.out).bel.cell (p := ⟨b', off' + k, none⟩) hb').trans hc'
              obtain ⟨g0, g1, -, -⟩ := (HGB.out) k hkl
              obtain ⟨a0, a1⟩ := (HAB.out) k hkl
              have hA2 : A + (l.getD k noSz).base + f k = sA (tB l f) (k + 1) := by rw [HAE.out]; simp only [sA, tB]; omega
              have hmo := (HMO.out) (k + 1) (by omega)
              have HA2 := hide hA2
              have HMM := hide (show A + (l.getD k noSz).base + f k ≤ sA (tB l f) M by rw [hA2]; exact hmo)
              clear hA2 hmo x0 x1 x2 x3 x4 x6 hc' hb' hlt HGB HAB HMO HAE
              generalize (l.getD k noSz).base = x at *
              generalize f k = y at *
              go_upto_region 12 with fail
              go_quiet (fail)
              have ST2 := hide ((ST.out).drewN nq)
              clear ST x5 e1
              generalize World.drewN _ nq = W2 at *
              by_cases hov : 68719476736 < A + x + y
              · have HV : Hid (R = (0, 10)) := hide (by rw [HV0.out, if_neg (by have := HMM.out; omega)])
                clear HV0 HMM HA2
                go_wp2_with fail
                go_ret2
                exact ⟨by rw [HV.out] <;> rfl, (ST2.out).bel⟩
              · clear HMM HV0
                go_wp2_with fail
                go_roundw
                case rel => exact ⟨k + 1, _, by omega, by go_num, by go_num, by omega, by omega, HA2, ST2⟩
                case measure => simp [intOf]; omega
            · have hi : ¬ (k : Int) < (M : Int) := by omega
              have hae := HAE.out
              rw [show k = M by omega] at hae
              have HV : Hid (R = (A, 0)) := hide (by rw [HV0.out, ← hae, if_pos hA1])
              clear hae HAE HV0 HGB HAB HMO
              go_wp2_with fail
              go_ret2
              exact ⟨by rw [HV.out] <;> rfl, (ST.out).bel⟩
    · have hnn : ((M : Int) != (N : Int)) = true := by simp; omega
      have HV : Hid (R = (0, 2)) := hide (by rw [HR.out, if_neg (fun hh => hMN hh.2.1)])
      clear HR HGD HTB
      go_enter Try.func8, Try.ntmps8
      go_wp2_with fail
      refine Calls.mono CG.out ?_
      rintro e w1 ⟨rfl, hb⟩
      have HB := hide hb
      clear hb
      go_wp2_with fail
      go_ret2
      exact ⟨by rw [HV.out] <;> rfl, HB.out⟩

end Go.Proofs.Ytaogioogpodmkaa

namespace Go.Proofs.Ytaogioogpodmkaa
open Go.RowKit

/-- What stands while tracks are laid one behind the other. -/
structure MxA (w W : World) (v : Value) (l : List SzD) (u : Value) (acc : List SzD) : Prop where
  s : SzL w v l
  bel : Below w.heap.size w W
  own : W.ownsRow w.heap.size 36 7 u acc.length (szsC acc)

theorem MxA.l {w W : World} {v u : Value} {l acc : List SzD} (h : MxA w W v l u acc) : SzL W v l := h.s.below h.bel

theorem MxA.next {w W W' : World} {v u : Value} {l acc : List SzD} (h : MxA w W v l u acc) (hb : Below W.heap.size W W') : MxA w W' v l u acc := ⟨h.s, h.bel.trans (hb.mono h.bel.size), own_below22 h.own hb⟩

theorem MxA.alloc {w W : World} {v u : Value} {l acc : List SzD} (h : MxA w W v l u acc) (o : Obj) : MxA w (W.alloc o) v l u acc := h.next ((Below.refl _ W).alloc (Nat.le_refl _) o)

theorem MxA.drew {w W : World} {v u : Value} {l acc : List SzD} (h : MxA w W v l u acc) : MxA w W.drew v l u acc := h.next (Below.refl _ W).drew

theorem MxA.start {w W : World} {v : Value} {l : List SzD} (h : SzL w v l) (hb : Below w.heap.size w W) : MxA w W v l (.slice none 0 0) [] := ⟨h, hb, World.ownsRow_nil _ _ _ _⟩

theorem MxA.put {w W : World} {v u : Value} {l acc : List SzD} (h : MxA w W v l u acc) {X : Nat} (hX : w.heap.size ≤ X) (hne : ∀ g, u.ownBlock = some g → g ≠ X) (j : Nat) (y : Value) : MxA w (W.setCell ⟨X, j, none⟩ y) v l u acc := by
  refine ⟨h.s, h.bel.setCell (p := ⟨X, j, none⟩) (by show w.heap.size ≤ X; omega) y, ⟨h.own.1, ?_⟩⟩
  rcases h.own.2 with h2 | ⟨g, cap, cur, hv, hg, hh, rest⟩
  · exact .inl h2
  · refine .inr ⟨g, cap, cur, hv, hg, (Below.heap_setCell _ _ _ _ (show g ≠ X from hne g (by rw [hv]; rfl))).trans hh, rest⟩

/-- One more behind them. -/
theorem MxA.push {w W W' : World} {v u u' : Value} {l acc : List SzD} {s : SzD} (h : MxA w W v l u acc)
    (hown : W'.ownsRow w.heap.size 36 7 u' (acc.length + 1) (szsC acc ++ (szC s).toList))
    (hgrow : (W.alloc (.cells (szC s) 36)).grownBy W' u.ownBlock) : MxA w W' v l u' (acc ++ [s]) := by
  have hA := h.alloc (.cells (szC s) 36)
  exact ⟨h.s, hA.bel.grown hgrow hA.bel.size (fun q hq => (own_lt22 h.own q hq).1), by rw [List.length_append, szsC_snoc]; exact hown⟩

theorem SzR.base {W : World} {X : Nat} {a b c e f g : Int} {q : Bool} (h : SzR W X ⟨a, b, c, q, e, f, g⟩) (y : Int) : SzR (W.setCell ⟨X, 5, none⟩ (.int .i64 y)) X ⟨a, b, c, q, e, y, g⟩ := heap_setCell_same W X 5 _ _ (.int .i64 y) h

theorem SzR.drew {W : World} {X : Nat} {s : SzD} (h : SzR W X s) : SzR W.drew X s := h

theorem take_snoc {α β : Type} (f : α → β) (d : α) : ∀ (l : List α) (k : Nat), k < l.length → (l.take (k + 1)).map f = (l.take k).map f ++ [f (l.getD k d)]
  | [], k, h => absurd h (Nat.not_lt_zero _)
  | x :: l, 0, _ => rfl
  | x :: l, k + 1, h => by
    have := take_snoc f d l k (by simpa using h)
    simp only [List.take_succ_cons, List.map_cons, List.cons_append, this]
    rfl

def fullV (s : SzD) : SzD := if s.limit = 1125899906842624 then s else ⟨s.mn, s.mx, s.fr, s.fit, s.cap, s.limit, s.limit⟩

def fullL (l : List SzD) : List SzD := if l.all goodS = true then l.map fullV else l

set_option maxRecDepth 100000 in
set_option maxHeartbeats 8000000 in
theorem rfull25_any (v : Value) (l : List SzD) (w : World) (h : SzL w v l) (hN : l.length ≤ 1000000) : Calls Try.prog 13 #[v] w fun e w' => ∃ u, e = .returned u ∧ SzL w' u (fullL l) ∧ Below w.heap.size w w' := by
  have CG := hide (rgood25_any v l w h hN)
  have HS := hide h
  obtain ⟨ao, cap, rfl⟩ := h.slice
  have HR : Hid (fullL l = if l.all goodS = true then l.map fullV else l) := hide rfl
  have HTK := hide (fun k (hk : k < l.length) => take_snoc fullV noSz l k hk)
  have HALL : Hid ((l.take l.length).map fullV = l.map fullV) := hide (by rw [List.take_length])
  generalize fullL l = R at *
  generalize l.all goodS = G at *
  obtain ⟨N, hN0⟩ : ∃ N, N = l.length := ⟨_, rfl⟩
  rw [← hN0] at CG HTK HALL hN HS
  rw [← hN0]
  have HNL := hide hN0
  clear h hN0
  cases G
  · have HV : Hid (R = l) := hide (by rw [HR.out, if_neg (by decide)])
    clear HR HTK HALL
    go_enter Try.func13, Try.ntmps13
    go_wp2_with fail
    refine Calls.mono CG.out ?_
    rintro e w1 ⟨rfl, hb⟩
    have HB := hide hb
    clear hb
    go_wp2_with fail
    go_ret
    exact ⟨_, rfl, by rw [HV.out]; exact (HS.out).below HB.out, HB.out⟩
  · have HV : Hid (R = l.map fullV) := hide (by rw [HR.out, if_pos rfl])
    clear HR
    obtain ⟨i0, hinf, hz0, hz1, hz2⟩ := info_parts szT22
    go_enter Try.func13, Try.ntmps13
    go_wp2_with fail
    refine Calls.mono CG.out ?_
    rintro e w1 ⟨rfl, hb⟩
    have ST0 := hide (MxA.start HS.out hb)
    clear hb CG
    go_wp2_with fail
    go_loopw [3, 4] (fun o i wr => ∃ (k : Nat) (acc : List SzD), k ≤ N ∧ i = .int .i64 (k : Int) ∧ Hid (acc.length = k) ∧ Hid (acc = (l.take k).map fullV) ∧ Hid (MxA w wr (.slice ao N cap) l o acc)) (fun _ i _ => N - (intOf i).toNat)
    case atStart => exact ⟨0, [], Nat.zero_le _, by go_num, hide rfl, hide rfl, ST0⟩
    case round =>
      clear ST0
      obtain ⟨k, acc, hk, rfl, HAL, HAC, ST⟩ := hrel
      obtain ⟨ua, uc, rfl⟩ := own_sl22 (ST.out).own
      by_cases hkl : k < N
      · have hi : (k : Int) < (N : Int) := by omega
        have hn2 : ¬ (k : Int) < 0 := by omega
        have hkL : k < l.length := by rw [← HNL.out]; exact hkl
        obtain ⟨b, off, rfl, hlt, x0, x1, x2, x3, x4, x5, x6⟩ := (ST.out).l.at hkL
        have hac : acc ++ [fullV (l.getD k noSz)] = (l.take (k + 1)).map fullV := by rw [HAC.out, ← (HTK.out) k hkl]
        have HAC2 := hide hac
        clear hac HAC
        generalize l.getD k noSz = x at *
        obtain ⟨a1, a2, a3, q, a5, a6, a7⟩ := x
        simp only at x0 x1 x2 x3 x4 x5 x6
        have hX : w.heap.size ≤ wr.heap.size := (ST.out).bel.size
        have HOWN := hide (fun g (hg : (Value.slice ua acc.length uc).ownBlock = some g) => Nat.ne_of_lt (own_lt22 (ST.out).own g hg).2)
        have ST2 := hide ((ST.out).alloc (.cells #[.int .i64 a1, .int .i64 a2, .int .i64 a3, .bool q, .int .i64 a5, .int .i64 a6, .int .i64 a7] 36))
        have s6 : SzR (wr.alloc (.cells #[.int .i64 a1, .int .i64 a2, .int .i64 a3, .bool q, .int .i64 a5, .int .i64 a6, .int .i64 a7] 36)) wr.heap.size ⟨a1, a2, a3, q, a5, a6, a7⟩ := SzR.new wr ⟨a1, a2, a3, q, a5, a6, a7⟩
        have HS6 := hide s6
        clear s6
        go_upto_region 8 with fail
        generalize wr.alloc (.cells #[.int .i64 a1, .int .i64 a2, .int .i64 a3, .bool q, .int .i64 a5, .int .i64 a6, .int .i64 a7] 36) = w2 at *
        generalize wr.heap.size = X at *
        clear ST x0 x1 x2 x3 x4 x5 x6
        obtain ⟨y0, y1, y2, y3, y4, y5, y6⟩ := (HS6.out).cells
        have yz := (HS6.out).z
        have hal : acc.length ≤ 1000000 := by rw [HAL.out]; omega
        rcases eqk6 a7 1125899906842624 with ⟨h0, h0b⟩ | ⟨h0, h0b⟩
        · have h0c : (a7 != 1125899906842624) = false := by simp [h0]
          have HAC3 : Hid (acc ++ [⟨a1, a2, a3, q, a5, a6, a7⟩] = (l.take (k + 1)).map fullV) := hide (by rw [← HAC2.out]; unfold fullV; rw [if_pos h0])
          clear HAC2 h0
          go_wp2_with (at_builtin; refine wpList_append_own _ rfl _ _ 22 rfl w.heap.size 36 i0 _ 7 56 Try.underlying22 hinf hz0 hz1 hz2 rfl (by decide) _ _ _ rfl ((ST2.out).alloc _).own ⟨w2.heap.size, 0, none⟩ 1 1 (szC ⟨a1, a2, a3, q, a5, a6, a7⟩).toList rfl rfl (cell_sev_new22 _ _ _ rfl _ _ _ _ _ _ _) (by simp [szC, Value.oneCell']) (by unfold maxLen; omega) (by (try simp); omega) (by (try simp); have := (ST2.out).bel.size; omega) ?_)
          intro v' w7 hown' hgrow _
          have ST7 := hide ((ST2.out).push (s := ⟨a1, a2, a3, q, a5, a6, a7⟩) hown' hgrow)
          clear hown' hgrow ST2 y0 y1 y2 y3 y4 y5 y6
          go_wp2_with fail
          go_roundw
          case rel => exact ⟨k + 1, acc ++ [⟨a1, a2, a3, q, a5, a6, a7⟩], by omega, by go_num, hide (by rw [List.length_append, HAL.out]; rfl), HAC3, ST7⟩
          case measure => simp [intOf]; omega
        · have h0c : (a7 != 1125899906842624) = true := by simp [h0]
          have HAC3 : Hid (acc ++ [⟨a1, a2, a3, q, a5, a7, a7⟩] = (l.take (k + 1)).map fullV) := hide (by rw [← HAC2.out]; unfold fullV; rw [if_neg h0])
          have ST3 := hide ((ST2.out).put hX HOWN.out 5 (.int .i64 a7))
          have HS7 := hide ((HS6.out).base a7)
          clear HAC2 h0
          go_upto_region 10 with fail
          generalize World.setCell w2 _ _ = w3 at *
          clear ST2 HS6 y0 y1 y2 y3 y4 y5 y6
          obtain ⟨y0, y1, y2, y3, y4, y5, y6⟩ := (HS7.out).cells
          go_wp2_with (at_builtin; refine wpList_append_own _ rfl _ _ 22 rfl w.heap.size 36 i0 _ 7 56 Try.underlying22 hinf hz0 hz1 hz2 rfl (by decide) _ _ _ rfl ((ST3.out).alloc _).own ⟨w3.heap.size, 0, none⟩ 1 1 (szC ⟨a1, a2, a3, q, a5, a7, a7⟩).toList rfl rfl (cell_sev_new22 _ _ _ rfl _ _ _ _ _ _ _) (by simp [szC, Value.oneCell']) (by unfold maxLen; omega) (by (try simp); omega) (by (try simp); have := (ST3.out).bel.size; omega) ?_)
          intro v' w7 hown' hgrow _
          have ST7 := hide ((ST3.out).push (s := ⟨a1, a2, a3, q, a5, a7, a7⟩) hown' hgrow)
          clear hown' hgrow ST3 y0 y1 y2 y3 y4 y5 y6
          go_wp2_with fail
          go_roundw
          case rel => exact ⟨k + 1, acc ++ [⟨a1, a2, a3, q, a5, a7, a7⟩], by omega, by go_num, hide (by rw [List.length_append, HAL.out]; rfl), HAC3, ST7⟩
          case measure => simp [intOf]; omega
      · have hi : ¬ (k : Int) < (N : Int) := by omega
        have hac := HAC.out
        rw [show k = N by omega, HALL.out] at hac
        have HV3 : Hid (R = acc) := hide (by rw [HV.out, hac])
        clear hac HAC HTK HALL HV
        go_wp2_with fail
        go_ret
        exact ⟨_, rfl, by rw [HV3.out]; exact szL_own (ST.out).own, (ST.out).bel⟩

end Go.Proofs.Ytaogioogpodmkaa

namespace Go.Proofs.Ytaogioogpodmkaa
open Go.RowKit

/-- Room up to the limit. -/
def rmF (l : List SzD) (k : Nat) : Int := (l.getD k noSz).limit - (l.getD k noSz).base

/-- With more of a base. -/
def addB (s : SzD) (y : Int) : SzD := ⟨s.mn, s.mx, s.fr, s.fit, s.cap, s.base + y, s.limit⟩

def grwL (l : List SzD) (x : Nat → Int) : Nat → List SzD
  | 0 => []
  | k + 1 => grwL l x k ++ [addB (l.getD k noSz) (x k)]

theorem grwL_len (l : List SzD) (x : Nat → Int) : ∀ k, (grwL l x k).length = k
  | 0 => rfl
  | k + 1 => by simp only [grwL, List.length_append, List.length_singleton]; rw [grwL_len l x k]

theorem grwL_ext (l : List SzD) {x y : Nat → Int} : ∀ k, (∀ j, j < k → x j = y j) → grwL l x k = grwL l y k
  | 0, _ => rfl
  | k + 1, h => by simp only [grwL]; rw [grwL_ext l k (fun j hj => h j (by omega)), h k (by omega)]

/-- What Grow tells. -/
def GrQ (l : List SzD) (free : Int) (out : List SzD) : Prop :=
  ((l.all goodS = true ∧ isSz free = true) ∧ ∃ x, UpQ free l.length (rmF l) x ∧ out = grwL l x l.length) ∨ (¬ (l.all goodS = true ∧ isSz free = true) ∧ out = l)

theorem GrQ.uniq {l out out' : List SzD} {free : Int} (h : GrQ l free out) (h' : GrQ l free out') : out = out' := by
  rcases h with ⟨a, x, hx, e⟩ | ⟨a, e⟩ <;> rcases h' with ⟨c, y, hy, e'⟩ | ⟨c, e'⟩
  · rw [e, e']
    exact grwL_ext l _ (hx.uniq hy)
  · exact absurd a c
  · exact absurd c a
  · rw [e, e']

theorem upQ_bd {s : Int} {N : Nat} {f x : Nat → Int} (h : UpQ s N f x) (hf : ∀ k, k < N → 0 ≤ f k ∧ f k ≤ 1125899906842624) (k : Nat) (hk : k < N) : 0 ≤ x k ∧ x k ≤ f k := by
  have h1 := hf k hk
  rcases h with ⟨_, h⟩ | ⟨_, h⟩
  · exact isUp_bd h (fun k hk => (hf k hk).1) k hk
  · rw [h k hk]; omega

/-- The rooms, one behind the other. -/
structure RmA (w W : World) (v : Value) (l : List SzD) (u : Value) (k : Nat) : Prop where
  s : SzL w v l
  bel : Below w.heap.size w W
  own : W.ownsRow w.heap.size 3 1 u k (((List.range k).map (rmF l)).map (Value.int .i64))

theorem RmA.next {w W W' : World} {v u : Value} {l : List SzD} {k : Nat} (h : RmA w W v l u k) (hb : Below W.heap.size W W') : RmA w W' v l u k := ⟨h.s, h.bel.trans (hb.mono h.bel.size), own_below22 h.own hb⟩

theorem cell_one_newM (w : World) (T b : Nat) (hb : b = w.heap.size) (c0 : Value) : ∀ j u, [c0][j]? = some u → (w.alloc (.cells #[c0] T)).cell? ((⟨b, 0, none⟩ : Addr).add j) = some u := by
  subst hb
  intro j u h
  have hn := heap_alloc_new w (.cells #[c0] T)
  have e : (⟨w.heap.size, 0, none⟩ : Addr).add j = ⟨w.heap.size, j, none⟩ := by simp [Addr.add]; exact fun h => h.symm
  rw [e, Lib.cell_of_heap hn]
  simpa using h

set_option maxRecDepth 100000 in
set_option maxHeartbeats 8000000 in
theorem rgrow25_any (v : Value) (l : List SzD) (free : Int) (w : World) (h : SzL w v l) (hN : l.length ≤ 1000000) : Calls Try.prog 11 #[v, .int .i64 free] w fun e w' => ∃ u out, e = .returned u ∧ SzL w' u out ∧ Below w.heap.size w w' ∧ GrQ l free out := by
  have CG := hide (rgood25_any v l w h hN)
  have CW := hide (fun W => rwithin25_any free W)
  have HS := hide h
  obtain ⟨ao, cap, rfl⟩ := h.slice
  have HQ0 : Hid (∀ out, GrQ l free out ↔ ((l.all goodS = true ∧ isSz free = true) ∧ ∃ x, UpQ free l.length (rmF l) x ∧ out = grwL l x l.length) ∨ (¬ (l.all goodS = true ∧ isSz free = true) ∧ out = l)) := hide (fun out => Iff.rfl)
  have HGD := hide (fun (h : l.all goodS = true) k (hk : k < l.length) => good_base (all_good h k hk))
  have CU := hide (fun au cu W (ha : ArI W au l.length (rmF l)) => rUp23_any free au l.length cu (rmF l) W ha hN)
  generalize hGG : l.all goodS = G at *
  generalize hZZ : isSz free = Z at *
  have HZB : Hid (Z = true → 0 ≤ free ∧ free ≤ 68719476736) := hide (fun h => isSz_bd (by rw [hZZ]; exact h))
  obtain ⟨N, hN0⟩ : ∃ N, N = l.length := ⟨_, rfl⟩
  rw [← hN0] at CG HGD hN HS CU
  rw [← hN0]
  have HNL := hide hN0
  clear h hN0 hGG hZZ
  cases G
  · have HQ : Hid (GrQ l free l) := hide ((HQ0.out l).2 (.inr ⟨fun hh => by have := hh.1; exact absurd this (by decide), rfl⟩))
    clear HQ0 HGD CU
    go_enter Try.func11, Try.ntmps11
    go_wp2_with fail
    refine Calls.mono CG.out ?_
    rintro e w1 ⟨rfl, hb⟩
    have HB := hide hb
    clear hb
    go_wp2_with fail
    go_ret
    exact ⟨_, l, rfl, (HS.out).below HB.out, HB.out, HQ.out⟩
  · cases Z
    · have HQ : Hid (GrQ l free l) := hide ((HQ0.out l).2 (.inr ⟨fun hh => by have := hh.2; exact absurd this (by decide), rfl⟩))
      clear HQ0 HGD CU
      go_enter Try.func11, Try.ntmps11
      go_wp2_with fail
      refine Calls.mono CG.out ?_
      rintro e w1 ⟨rfl, hb⟩
      have HB := hide hb
      clear hb
      go_wp2_with (go_at_call 22; refine ((CW.out) _).mono ?_; rintro e w' ⟨rfl, hw⟩; subst w')
      go_ret
      exact ⟨_, l, rfl, (HS.out).below HB.out, HB.out, HQ.out⟩
    · have HQ : Hid (∀ x, UpQ free N (rmF l) x → GrQ l free (grwL l x N)) := hide (fun x hx => (HQ0.out _).2 (.inl ⟨⟨by trivial, by trivial⟩, x, by rw [← HNL.out]; exact hx, by rw [← HNL.out]⟩))
      have HGB := hide (fun k hk => (HGD.out) (by trivial) k hk)
      obtain ⟨hz0, hz1⟩ := (HZB.out) rfl
      clear HQ0 HGD HZB
      obtain ⟨i0, hinf, hy0, hy1, hy2⟩ := info_parts info_intF
      go_enter Try.func11, Try.ntmps11
      go_wp2_with fail
      refine Calls.mono CG.out ?_
      rintro e w1 ⟨rfl, hb⟩
      have ST0 : Hid (RmA w w1 (.slice ao N cap) l (.slice none 0 0) 0) := hide ⟨HS.out, hb, World.ownsRow_nil _ _ _ _⟩
      clear hb CG
      go_wp2_with (go_at_call 22; refine ((CW.out) _).mono ?_; rintro e w' ⟨rfl, hw⟩; subst w')
      go_loopw [5, 6] (fun o i wr => ∃ k : Nat, k ≤ N ∧ i = .int .i64 (k : Int) ∧ Hid (RmA w wr (.slice ao N cap) l o k)) (fun _ i _ => N - (intOf i).toNat)
      case atStart => exact ⟨0, Nat.zero_le _, by go_num, ST0⟩
      case round =>
        clear ST0
        obtain ⟨k, hk, rfl, ST⟩ := hrel
        obtain ⟨ua, uc, rfl⟩ := own_sl22 (ST.out).own
        by_cases hkl : k < N
        · have hi : (k : Int) < (N : Int) := by omega
          have hn2 : ¬ (k : Int) < 0 := by omega
          have hkL : k < l.length := by rw [← HNL.out]; exact hkl
          have hcells : ∀ W, Below w.heap.size w W → ∃ b off, ao = some ⟨b, off, none⟩ := fun W _ => by
            obtain ⟨b, off, e, _⟩ := (HS.out).at hkL
            exact ⟨b, off, e⟩
          obtain ⟨b, off, rfl, hlt, x0, x1, x2, x3, x4, x5, x6⟩ := (HS.out).at hkL
          have HC := hide (fun W (hb : Below w.heap.size w W) => And.intro ((hb.cell (p := ⟨b, off + k * 7 + 6, none⟩) hlt).trans x6) ((hb.cell (p := ⟨b, off + k * 7 + 5, none⟩) hlt).trans x5))
          obtain ⟨g0, g1, g2, g3⟩ := (HGB.out) k hkl
          have HRS : Hid (((List.range (k + 1)).map (rmF l)).map (Value.int .i64) = ((List.range k).map (rmF l)).map (Value.int .i64) ++ [.int .i64 ((l.getD k noSz).limit - (l.getD k noSz).base)]) := hide (by rw [List.range_succ]; simp [rmF])
          clear x0 x1 x2 x3 x4 x5 x6 hcells
          generalize (l.getD k noSz).limit = y at *
          generalize (l.getD k noSz).base = x at *
          have hwr : IntKind.i64.wrap (y - x) = y - x := IntWalk.i64_in _ ⟨by omega, by omega⟩
          have ST4 := hide ((ST.out).next (Below.refl _ wr).drew)
          have B1 := hide (ST4.out).bel
          have hbz : w.heap.size ≤ wr.drew.heap.size := (B1.out).size
          have hbz2 : w.heap.size ≤ wr.heap.size := hbz
          clear ST HGB
          go_upto_region 7 with fail
          obtain ⟨d6, d5⟩ := (HC.out) wr.drew B1.out
          go_region_held3 (fun w' => w'.cell? ⟨b, off + k * 7 + 6, none⟩ = some (.int .i64 y) ∧ w'.cell? ⟨b, off + k * 7 + 5, none⟩ = some (.int .i64 x))
            (first | exact (HC.out) _ B1.out | exact (HC.out) _ ((B1.out).alloc hbz _) | exact (HC.out) _ (by assumption : Hid (Below w.heap.size w _)).out | go_keep)
            (first
              | (refine step_append_lies _ rfl (.tmp 26) (.tmp 38) 23 rfl w.heap.size 3 i0 _ 1 8 Try.underlying23 hinf hy0 hy1 hy2 rfl (by decide) (.slice ua k uc) k (((List.range k).map (rmF l)).map (Value.int .i64)) (by rfl) ((ST4.out).own.alloc _) ⟨wr.drew.heap.size, 0, none⟩ 1 1 [.int .i64 (y - x)] (by rfl) rfl (cell_one_newM _ _ _ rfl _) (by simp [Value.oneCell']) (by decide) (by unfold maxLen; omega) (by omega) (by (try simp); omega) _ rfl ?_; intro g1 cap1 w7 hown hgrow hat hlt; have hlt2 : ∀ q, (Value.slice ua k uc).ownBlock = some q → w.heap.size ≤ q := (fun q hq => ((ST4.out).own.lt q hq).1); have B7 : Hid (Below w.heap.size w w7) := hide (((B1.out).alloc hbz _).grown hgrow (by simp; omega) hlt2); have ST7 : Hid (RmA w w7 (.slice (some ⟨b, off, none⟩) N cap) l (.slice (some ⟨g1, 0, none⟩) (k + 1) cap1) (k + 1)) := hide ⟨HS.out, B7.out, by rw [HRS.out]; exact hown⟩; clear hown hgrow hat hlt hlt2))
          go_wp2_with fail
          go_roundw
          case rel => exact ⟨k + 1, by omega, by go_num, ST7⟩
          case measure => simp [intOf]; omega
        · have hi : ¬ (k : Int) < (N : Int) := by omega
          have ek : k = N := by omega
          subst ek
          have hro : Reads wr (.slice ua k uc) ((List.range k).map (rmF l)) := reads_owns (ST.out).own
          obtain ⟨aq, cq, eq, har⟩ := hro.arI
          obtain ⟨rfl, -, rfl⟩ : ua = aq ∧ k = ((List.range k).map (rmF l)).length ∧ uc = cq := by simpa using eq
          have hlen : ((List.range k).map (rmF l)).length = k := by simp
          rw [hlen] at har
          have har2 := har.ext (fun j hj => getD_map_range (rmF l) k j hj)
          have C2 := hide ((CU.out) ua uc wr har2)
          have HBW := hide (ST.out).bel
          have HSW := hide ((HS.out).below (ST.out).bel)
          have HRB : Hid (∀ j, j < k → 0 ≤ rmF l j ∧ rmF l j ≤ 1125899906842624) := hide (fun j hj => by
            obtain ⟨g0, g1, g2, g3⟩ := (HGB.out) j hj
            unfold rmF
            omega)
          clear hro eq har har2 hlen CU ST
          obtain ⟨i1, hinf1, hw0, hw1, hw2⟩ := info_parts szT22
          go_wp2_with fail
          refine Calls.mono C2.out ?_
          rintro e w3 ⟨G, x, rfl, hst, hup⟩
          have HXB : Hid (∀ j, j < k → 0 ≤ x j ∧ x j ≤ 1125899906842624) := hide (fun j hj => by
            have h1 := upQ_bd hup HRB.out j hj
            have h2 := (HRB.out) j hj
            omega)
          have HQ2 := hide ((HQ.out) x hup)
          have HB3 : Hid (Below w.heap.size w w3) := hide ((HBW.out).trans (hst.bel.mono (HBW.out).size))
          have HAR := hide (hst.mr.arI)
          have ST0 := hide (MxA.start ((HSW.out).below hst.bel) (Below.refl _ w3))
          clear hup HRB HQ HSW HBW hst C2
          go_wp2_with fail
          go_loopw [8, 9] (fun o i wr => ∃ (j : Nat) (acc : List SzD), j ≤ k ∧ i = .int .i64 (j : Int) ∧ Hid (acc.length = j) ∧ Hid (acc = grwL l x j) ∧ Hid (MxA w3 wr (.slice ao k cap) l o acc)) (fun _ i _ => k - (intOf i).toNat)
          case atStart => exact ⟨0, [], Nat.zero_le _, by go_num, hide rfl, hide rfl, ST0⟩
          case round =>
            clear ST0
            obtain ⟨j, acc, hj, rfl, HAL, HAC, ST⟩ := hrel
            obtain ⟨ub, uc2, rfl⟩ := own_sl22 (ST.out).own
            by_cases hjk : j < k
            · have hi1 : (j : Int) < (k : Int) := by omega
              have hn2 : ¬ (j : Int) < 0 := by omega
              have hjL : j < l.length := by rw [← HNL.out]; exact hjk
              obtain ⟨b, off, rfl, hlt, x0, x1, x2, x3, x4, x5, x6⟩ := (ST.out).l.at hjL
              obtain ⟨g0, g1, g2, g3⟩ := (HGB.out) j hjk
              obtain ⟨v0, v1⟩ := (HXB.out) j hjk
              have HSN : Hid (acc ++ [addB (l.getD j noSz) (x j)] = grwL l x (j + 1)) := hide (by rw [HAC.out]; rfl)
              have HXC := hide (fun W (hb : Below w3.heap.size w3 W) => ((HAR.out).below hb).at hjk)
              clear HAC HGB HXB
              generalize x j = y at *
              generalize l.getD j noSz = z at *
              obtain ⟨a1, a2, a3, q, a5, a6, a7⟩ := z
              simp only at x0 x1 x2 x3 x4 x5 x6 g0 g1 g2 g3
              unfold addB at HSN
              simp only at HSN
              have hX : w3.heap.size ≤ wr.heap.size := (ST.out).bel.size
              have HOWN := hide (fun g (hg : (Value.slice ub acc.length uc2).ownBlock = some g) => Nat.ne_of_lt (own_lt22 (ST.out).own g hg).2)
              have ST2 := hide ((ST.out).alloc (.cells #[.int .i64 a1, .int .i64 a2, .int .i64 a3, .bool q, .int .i64 a5, .int .i64 a6, .int .i64 a7] 36))
              have s6 : SzR (wr.alloc (.cells #[.int .i64 a1, .int .i64 a2, .int .i64 a3, .bool q, .int .i64 a5, .int .i64 a6, .int .i64 a7] 36)) wr.heap.size ⟨a1, a2, a3, q, a5, a6, a7⟩ := SzR.new wr ⟨a1, a2, a3, q, a5, a6, a7⟩
              have HS6 := hide s6
              clear s6
              go_upto_region 14 with fail
              generalize wr.alloc (.cells #[.int .i64 a1, .int .i64 a2, .int .i64 a3, .bool q, .int .i64 a5, .int .i64 a6, .int .i64 a7] 36) = w2 at *
              generalize wr.heap.size = X at *
              clear ST x0 x1 x2 x3 x4 x5 x6
              obtain ⟨y0, y1, y2, y3, y4, y5, y6⟩ := (HS6.out).cells
              have yz := (HS6.out).z
              obtain ⟨bg, og, egr, hcg⟩ := (HXC.out) w2 (ST2.out).bel
              obtain ⟨rfl, rfl⟩ : G = bg ∧ 0 = og := by simpa using egr
              have hal : acc.length ≤ 1000000 := by rw [HAL.out]; omega
              have ST3 := hide (((ST2.out).put hX HOWN.out 5 (.int .i64 (a6 + y))).drew)
              have HS7 := hide (((HS6.out).base (a6 + y)).drew)
              have hwr : IntKind.i64.wrap (a6 + y) = a6 + y := IntWalk.i64_in _ ⟨by omega, by omega⟩
              rw [Nat.zero_add] at hcg
              clear HXC egr
              go_region
              generalize World.drew (World.setCell w2 _ _) = w4 at *
              clear ST2 HS6 y0 y1 y2 y3 y4 y5 y6 yz hcg
              obtain ⟨y0, y1, y2, y3, y4, y5, y6⟩ := (HS7.out).cells
              go_wp2_with (at_builtin; refine wpList_append_own _ rfl _ _ 22 rfl w3.heap.size 36 i1 _ 7 56 Try.underlying22 hinf1 hw0 hw1 hw2 rfl (by decide) _ _ _ rfl ((ST3.out).alloc _).own ⟨w4.heap.size, 0, none⟩ 1 1 (szC ⟨a1, a2, a3, q, a5, a6 + y, a7⟩).toList rfl rfl (cell_sev_new22 _ _ _ rfl _ _ _ _ _ _ _) (by simp [szC, Value.oneCell']) (by unfold maxLen; omega) (by (try simp); omega) (by (try simp); have := (ST3.out).bel.size; omega) ?_)
              intro v' w7 hown' hgrow _
              have ST7 := hide ((ST3.out).push (s := ⟨a1, a2, a3, q, a5, a6 + y, a7⟩) hown' hgrow)
              clear hown' hgrow ST3 y0 y1 y2 y3 y4 y5 y6
              go_wp2_with fail
              go_roundw
              case rel => exact ⟨j + 1, acc ++ [⟨a1, a2, a3, q, a5, a6 + y, a7⟩], by omega, by go_num, hide (by rw [List.length_append, HAL.out]; rfl), HSN, ST7⟩
              case measure => simp [intOf]; omega
            · have hi1 : ¬ (j : Int) < (k : Int) := by omega
              have hac := HAC.out
              rw [show j = k by omega] at hac
              have HAC2 := hide hac
              clear hac HAC
              go_wp2_with fail
              go_ret
              exact ⟨_, rfl, acc, szL_own (ST.out).own, (HB3.out).trans ((ST.out).bel.mono (HB3.out).size), by rw [HAC2.out]; exact HQ2.out⟩

end Go.Proofs.Ytaogioogpodmkaa

namespace Go.Proofs.Ytaogioogpodmkaa
open Go.RowKit

def isAu (l : List SzD) (k : Nat) : Bool := (l.getD k noSz).mx == 2

/-- A track with its part, raised. -/
def stV (l : List SzD) (p : List Int) (k : Nat) : SzD := raiseV (if isAu l k = true then addB (l.getD k noSz) (p.getD (cnt (isAu l) k) 0) else l.getD k noSz)

def stL (l : List SzD) (p : List Int) : Nat → List SzD
  | 0 => []
  | k + 1 => stL l p k ++ [stV l p k]

theorem stL_len (l : List SzD) (p : List Int) : ∀ k, (stL l p k).length = k
  | 0 => rfl
  | k + 1 => by simp only [stL, List.length_append, List.length_singleton]; rw [stL_len l p k]

def strV (l : List SzD) (free : Int) : List SzD := if l.all goodS = true ∧ isSz free = true then stL l (spV free (cnt (isAu l) l.length : Int)) l.length else l

set_option maxRecDepth 100000 in
set_option maxHeartbeats 8000000 in
theorem rstretch25_any (v : Value) (l : List SzD) (free : Int) (w : World) (h : SzL w v l) (hN : l.length ≤ 65536) : Calls Try.prog 15 #[v, .int .i64 free] w fun e w' => ∃ u, e = .returned u ∧ SzL w' u (strV l free) ∧ Below w.heap.size w w' := by
  have CG := hide (rgood25_any v l w h (by omega))
  have CW := hide (fun W => rwithin25_any free W)
  have HS := hide h
  obtain ⟨ao, cap, rfl⟩ := h.slice
  have HR : Hid (strV l free = if l.all goodS = true ∧ isSz free = true then stL l (spV free (cnt (isAu l) l.length : Int)) l.length else l) := hide rfl
  have HGD := hide (fun (h : l.all goodS = true) k (hk : k < l.length) => good_base (all_good h k hk))
  generalize strV l free = R at *
  generalize hGG : l.all goodS = G at *
  generalize hZZ : isSz free = Z at *
  have HZB : Hid (Z = true → 0 ≤ free ∧ free ≤ 68719476736) := hide (fun h => isSz_bd (by rw [hZZ]; exact h))
  obtain ⟨N, hN0⟩ : ∃ N, N = l.length := ⟨_, rfl⟩
  rw [← hN0] at CG HGD hN HS HR
  rw [← hN0]
  have HNL := hide hN0
  clear h hN0 hGG hZZ
  cases G
  · have HV : Hid (R = l) := hide (by rw [HR.out, if_neg (fun hh => by have := hh.1; exact absurd this (by decide))])
    clear HR HGD
    go_enter Try.func15, Try.ntmps15
    go_wp2_with fail
    refine Calls.mono CG.out ?_
    rintro e w1 ⟨rfl, hb⟩
    have HB := hide hb
    clear hb
    go_wp2_with fail
    go_ret
    exact ⟨_, rfl, by rw [HV.out]; exact (HS.out).below HB.out, HB.out⟩
  · cases Z
    · have HV : Hid (R = l) := hide (by rw [HR.out, if_neg (fun hh => by have := hh.2; exact absurd this (by decide))])
      clear HR HGD
      go_enter Try.func15, Try.ntmps15
      go_wp2_with fail
      refine Calls.mono CG.out ?_
      rintro e w1 ⟨rfl, hb⟩
      have HB := hide hb
      clear hb
      go_wp2_with (go_at_call 22; refine ((CW.out) _).mono ?_; rintro e w' ⟨rfl, hw⟩; subst w')
      go_ret
      exact ⟨_, rfl, by rw [HV.out]; exact (HS.out).below HB.out, HB.out⟩
    · have HV : Hid (R = stL l (spV free (cnt (isAu l) N : Int)) N) := hide (by rw [HR.out, if_pos ⟨by trivial, by trivial⟩])
      have HGB := hide (fun k hk => (HGD.out) (by trivial) k hk)
      obtain ⟨hz0, hz1⟩ := (HZB.out) rfl
      have HCL := hide (cnt_le (isAu l))
      have HCT := hide (fun k (hk : k < N) (h : isAu l k = true) => cnt_lt hk h)
      clear HR HGD HZB
      go_enter Try.func15, Try.ntmps15
      go_wp2_with fail
      refine Calls.mono CG.out ?_
      rintro e w1 ⟨rfl, hb⟩
      have HB1 := hide hb
      have HS1 := hide ((HS.out).below hb)
      clear hb CG
      go_wp2_with (go_at_call 22; refine ((CW.out) _).mono ?_; rintro e w' ⟨rfl, hw⟩; subst w')
      go_loop [5, 6] (fun c i => ∃ k d : Nat, k ≤ N ∧ i = .int .i64 (k : Int) ∧ c = .int .i64 (d : Int) ∧ d ≤ k ∧ Hid (d = cnt (isAu l) k)) (fun _ i => N - (intOf i).toNat)
      case atStart => exact ⟨0, 0, Nat.zero_le _, by go_num, by go_num, Nat.le_refl _, hide rfl⟩
      case round =>
        obtain ⟨k, d, hk, rfl, rfl, hdk, HD⟩ := hrel
        by_cases hkl : k < N
        · have hi : (k : Int) < (N : Int) := by omega
          have hn2 : ¬ (k : Int) < 0 := by omega
          have hkL : k < l.length := by rw [← HNL.out]; exact hkl
          obtain ⟨b, off, rfl, hlt, x0, x1, x2, x3, x4, x5, x6⟩ := (HS1.out).at hkL
          have hcc : cnt (isAu l) (k + 1) = d + if isAu l k then 1 else 0 := by rw [HD.out]; rfl
          have hau : isAu l k = ((l.getD k noSz).mx == 2) := rfl
          clear x0 x2 x3 x4 x5 x6 HV HGB HCL HCT
          generalize isAu l k = q at *
          generalize (l.getD k noSz).mx = y at *
          cases q
          · have HD2 : Hid (d = cnt (isAu l) (k + 1)) := hide (by rw [hcc]; rfl)
            have h2 : (y == 2) = false := hau.symm
            clear hcc hau HD
            go_wp2_with fail
            go_round
            case rel => exact ⟨k + 1, d, by omega, by go_num, by go_num, by omega, HD2⟩
            case measure => simp [intOf]; omega
          · have HD2 : Hid (d + 1 = cnt (isAu l) (k + 1)) := hide (by rw [hcc]; rfl)
            have h2 : (y == 2) = true := hau.symm
            clear hcc hau HD
            go_wp2_with fail
            go_round
            case rel => exact ⟨k + 1, d + 1, by omega, by go_num, by go_num, by omega, HD2⟩
            case measure => simp [intOf]; omega
        · have hi : ¬ (k : Int) < (N : Int) := by omega
          have hd := HD.out
          rw [show k = N by omega] at hd
          have HV2 : Hid (R = stL l (spV free (d : Int)) N) := hide (by rw [HV.out, ← hd])
          have HCT2 := hide (fun k (hk : k < N) (h : isAu l k = true) => (show cnt (isAu l) k < d by rw [hd]; exact (HCT.out) k hk h))
          have HSF := hide (fun (h1 : 1 ≤ d) (h2 : d ≤ 65536) => spV_full hz0 h1 h2)
          have HPB := hide (fun i => spV_bd hz0 (d : Int) i)
          clear hd HD HV HCT HS
          generalize hP : spV free (d : Int) = P at HV2 HSF HPB
          obtain ⟨i1, hinf1, hw0, hw1, hw2⟩ := info_parts szT22
          go_upto_region 10 with (go_at_call 32; refine (rsplitF_any free (d : Int) _ (by omega)).mono ?_; rintro e w3 ⟨vp, rfl, hrp, hb3⟩; obtain ⟨ap, cap2, rfl, hp⟩ := (hrp.reads).arI)
          simp only [hP] at hp ⊢
          obtain ⟨L2, hL2⟩ : ∃ L2, L2 = P.length := ⟨_, rfl⟩
          rw [← hL2] at hp HSF ⊢
          have HP3 := hide hp
          have HB3 : Hid (Below w.heap.size w w3) := hide ((HB1.out).trans (hb3.mono (HB1.out).size))
          have ST0 := hide (MxA.start ((HS1.out).below hb3) (Below.refl _ w3))
          have CRA := hide (fun a b c q e f g W => rraise22_any ⟨a, b, c, q, e, f, g⟩ W)
          unfold szC at CRA
          simp only at CRA
          clear hp hb3 hrp hL2 hP HS1 HB1
          go_wp2_with fail
          go_loopw [8, 9, 10] (fun c o i wr => ∃ (j d : Nat) (acc : List SzD), j ≤ N ∧ i = .int .i64 (j : Int) ∧ c = .int .i64 (d : Int) ∧ d ≤ j ∧ Hid (d = cnt (isAu l) j) ∧ Hid (acc.length = j) ∧ Hid (acc = stL l P j) ∧ Hid (MxA w3 wr (.slice ao N cap) l o acc)) (fun _ _ i _ => N - (intOf i).toNat)
          case atStart => exact ⟨0, 0, [], Nat.zero_le _, by go_num, by go_num, Nat.le_refl _, hide rfl, hide rfl, hide rfl, ST0⟩
          case round =>
            clear ST0
            obtain ⟨j, d2, acc, hj, rfl, rfl, hdj, HD, HAL, HAC, ST⟩ := hrel
            obtain ⟨ub, uc2, rfl⟩ := own_sl22 (ST.out).own
            by_cases hjk : j < N
            · have hi1 : (j : Int) < (N : Int) := by omega
              have hn2 : ¬ (j : Int) < 0 := by omega
              have hjL : j < l.length := by rw [← HNL.out]; exact hjk
              obtain ⟨b, off, rfl, hlt, x0, x1, x2, x3, x4, x5, x6⟩ := (ST.out).l.at hjL
              obtain ⟨g0, g1, g2, g3⟩ := (HGB.out) j hjk
              have hsn : acc ++ [stV l P j] = stL l P (j + 1) := by rw [HAC.out]; rfl
              have hst : stV l P j = raiseV (if isAu l j = true then addB (l.getD j noSz) (P.getD d2 0) else l.getD j noSz) := by rw [HD.out]; rfl
              have hcc : cnt (isAu l) (j + 1) = d2 + if isAu l j then 1 else 0 := by rw [HD.out]; rfl
              have hct : isAu l j = true → d2 < d := fun h => by rw [HD.out]; exact (HCT2.out) j hjk h
              have hau : isAu l j = ((l.getD j noSz).mx == 2) := rfl
              rw [hst] at hsn
              have HPB2 := (HPB.out) d2
              have HSN := hide hsn
              have HCC := hide hcc
              have HXC := hide (fun W (hb : Below w3.heap.size w3 W) (h : d2 < L2) => ((HP3.out).below hb).at h)
              clear hsn hst hcc HAC HD HGB HCL HCT2 HPB HV2
              generalize isAu l j = au at *
              generalize l.getD j noSz = z at *
              obtain ⟨a1, a2, a3, q, a5, a6, a7⟩ := z
              simp only at x0 x1 x2 x3 x4 x5 x6 g0 g1 g2 g3 hau
              have hX : w3.heap.size ≤ wr.heap.size := (ST.out).bel.size
              have HOWN := hide (fun g (hg : (Value.slice ub acc.length uc2).ownBlock = some g) => Nat.ne_of_lt (own_lt22 (ST.out).own g hg).2)
              have ST2 := hide ((ST.out).alloc (.cells #[.int .i64 a1, .int .i64 a2, .int .i64 a3, .bool q, .int .i64 a5, .int .i64 a6, .int .i64 a7] 36))
              have s6 : SzR (wr.alloc (.cells #[.int .i64 a1, .int .i64 a2, .int .i64 a3, .bool q, .int .i64 a5, .int .i64 a6, .int .i64 a7] 36)) wr.heap.size ⟨a1, a2, a3, q, a5, a6, a7⟩ := SzR.new wr ⟨a1, a2, a3, q, a5, a6, a7⟩
              have HS6 := hide s6
              clear s6
              go_upto_region 16 with fail
              generalize wr.alloc (.cells #[.int .i64 a1, .int .i64 a2, .int .i64 a3, .bool q, .int .i64 a5, .int .i64 a6, .int .i64 a7] 36) = w2 at *
              generalize wr.heap.size = X at *
              clear ST x0 x1 x2 x3 x4 x5 x6
              obtain ⟨y0, y1, y2, y3, y4, y5, y6⟩ := (HS6.out).cells
              have yz := (HS6.out).z
              have hal : acc.length ≤ 1000000 := by rw [HAL.out]; omega
              cases au
              · have h2 : (a2 == 2) = false := hau.symm
                have HSN2 : Hid (acc ++ [⟨a1, a2, a3, q, a5, a6, max a7 a6⟩] = stL l P (j + 1)) := hide (by rw [← HSN.out]; rfl)
                have HD2 : Hid (d2 = cnt (isAu l) (j + 1)) := hide (by rw [HCC.out]; rfl)
                clear hau hct HXC HSN HCC
                have ST3 := ST2
                clear ST2
                go_wp2_with (first
                  | (go_at_call 33; refine ((CRA.out) a1 a2 a3 q a5 a6 a7 _).mono ?_; rintro e w5 ⟨rfl, hb5⟩; have ST5 := hide ((ST3.out).next hb5); clear hb5)
                  | (at_builtin; refine wpList_append_own _ rfl _ _ 22 rfl w3.heap.size 36 i1 _ 7 56 Try.underlying22 hinf1 hw0 hw1 hw2 rfl (by decide) _ _ _ rfl ((ST5.out).alloc _).own ⟨w5.heap.size, 0, none⟩ 1 1 (szC ⟨a1, a2, a3, q, a5, a6, max a7 (a6)⟩).toList rfl rfl (cell_sev_new22 _ _ _ rfl _ _ _ _ _ _ _) (by simp [szC, Value.oneCell']) (by unfold maxLen; omega) (by (try simp); omega) (by (try simp); have := (ST5.out).bel.size; omega) ?_))
                intro v' w7 hown' hgrow _
                have ST7 := hide ((ST5.out).push (s := ⟨a1, a2, a3, q, a5, a6, max a7 (a6)⟩) hown' hgrow)
                clear hown' hgrow ST3 ST5 y0 y1 y2 y3 y4 y5 y6
                go_wp2_with fail
                go_roundw
                case rel => exact ⟨j + 1, d2, acc ++ [⟨a1, a2, a3, q, a5, a6, max a7 a6⟩], by omega, by go_num, by go_num, by omega, HD2, hide (by rw [List.length_append, HAL.out]; rfl), HSN2, ST7⟩
                case measure => simp [intOf]; omega
              · have h2 : (a2 == 2) = true := hau.symm
                have hdd := hct rfl
                have hLd := (HSF.out) (by omega) (by omega)
                have hd3 : (d2 : Int) < (L2 : Int) := by omega
                have hn4 : ¬ (d2 : Int) < 0 := by omega
                obtain ⟨bg, og, rfl, hcg⟩ := (HXC.out) w2 (ST2.out).bel (by omega)
                have HD2 : Hid (d2 + 1 = cnt (isAu l) (j + 1)) := hide (by rw [HCC.out]; rfl)
                have HSN2 : Hid (acc ++ [⟨a1, a2, a3, q, a5, a6 + P.getD d2 0, max a7 (a6 + P.getD d2 0)⟩] = stL l P (j + 1)) := hide (by rw [← HSN.out]; rfl)
                clear hau hct HXC HSN HCC hLd
                generalize P.getD d2 0 = y at *
                have ST4 := hide (((ST2.out).put hX HOWN.out 5 (.int .i64 (a6 + y))).drew)
                have HS7 := hide (((HS6.out).base (a6 + y)).drew)
                have hwr : IntKind.i64.wrap (a6 + y) = a6 + y := IntWalk.i64_in _ ⟨by omega, by omega⟩
                go_upto_region 17 with fail
                go_region
                generalize World.drew (World.setCell w2 _ _) = w4 at *
                have ST3 := ST4
                clear ST2 ST4 HS6 y0 y1 y2 y3 y4 y5 y6 yz hcg
                obtain ⟨y0, y1, y2, y3, y4, y5, y6⟩ := (HS7.out).cells
                go_wp2_with (first
                  | (go_at_call 33; refine ((CRA.out) a1 a2 a3 q a5 (a6 + y) a7 _).mono ?_; rintro e w5 ⟨rfl, hb5⟩; have ST5 := hide ((ST3.out).next hb5); clear hb5)
                  | (at_builtin; refine wpList_append_own _ rfl _ _ 22 rfl w3.heap.size 36 i1 _ 7 56 Try.underlying22 hinf1 hw0 hw1 hw2 rfl (by decide) _ _ _ rfl ((ST5.out).alloc _).own ⟨w5.heap.size, 0, none⟩ 1 1 (szC ⟨a1, a2, a3, q, a5, a6 + y, max a7 (a6 + y)⟩).toList rfl rfl (cell_sev_new22 _ _ _ rfl _ _ _ _ _ _ _) (by simp [szC, Value.oneCell']) (by unfold maxLen; omega) (by (try simp); omega) (by (try simp); have := (ST5.out).bel.size; omega) ?_))
                intro v' w7 hown' hgrow _
                have ST7 := hide ((ST5.out).push (s := ⟨a1, a2, a3, q, a5, a6 + y, max a7 (a6 + y)⟩) hown' hgrow)
                clear hown' hgrow ST3 ST5 y0 y1 y2 y3 y4 y5 y6
                go_wp2_with fail
                go_roundw
                case rel => exact ⟨j + 1, d2 + 1, acc ++ [⟨a1, a2, a3, q, a5, a6 + y, max a7 (a6 + y)⟩], by omega, by go_num, by go_num, by omega, HD2, hide (by rw [List.length_append, HAL.out]; rfl), HSN2, ST7⟩
                case measure => simp [intOf]; omega
            · have hi1 : ¬ (j : Int) < (N : Int) := by omega
              have hac := HAC.out
              rw [show j = N by omega] at hac
              have HV3 : Hid (R = acc) := hide (by rw [HV2.out, hac])
              clear hac HAC
              go_wp2_with fail
              go_ret
              exact ⟨_, rfl, by rw [HV3.out]; exact szL_own (ST.out).own, (HB3.out).trans ((ST.out).bel.mono (HB3.out).size)⟩

end Go.Proofs.Ytaogioogpodmkaa
