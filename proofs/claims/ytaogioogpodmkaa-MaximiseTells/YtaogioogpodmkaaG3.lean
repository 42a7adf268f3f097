/- Texts that this proof stands on, put together. -/
import Derived.Test.YtaogioogpodmkaaG2
import Derived.Test.YtaogioogpodmkaaIdx
import Derived.Test.YtaogioogpodmkaaBas2
import Derived.Deep.RegionWith
import Derived.Test.YtaogioogpodmkaaG1

namespace Go.Proofs.Ytaogioogpodmkaa
open Go.RowKit

set_option maxRecDepth 100000 in
set_option maxHeartbeats 4000000 in
theorem idxGo_any (p : SzD → Bool) (hp : ∀ s W, Calls Try.prog 36 #[.agg (szC s)] W fun e w' => e = .returned (.bool (p s)) ∧ Below W.heap.size W w') (v : Value) (l : List SzD) (w : World) (h : SzL w v l) (hN : l.length ≤ 1000000) :
    Calls Try.prog 43 #[v, .func (.func 36) #[] #[]] w fun e w' => e = .returned (.int .i64 (idxG p l)) ∧ Below w.heap.size w w' := by
  have ST0 := hide (MxS.start h)
  obtain ⟨ao, cap, rfl⟩ := h.slice
  have hhit := fun k h1 h2 h3 => idxG_hit p l noSz k h1 h2 h3
  have hnone := fun h => idxG_none p l noSz h
  have CP := hide (fun a b c q e f g W (hh : MxS w W (.slice ao l.length cap) l) => (hp ⟨a, b, c, q, e, f, g⟩ W).mono fun _ _ hx => And.intro hx.1 (hh.next hx.2))
  generalize idxG p l = R at *
  have HH := hide hhit
  have HN := hide hnone
  obtain ⟨N, hN0⟩ : ∃ N, N = l.length := ⟨_, rfl⟩
  rw [← hN0] at ST0 CP HH HN hN ⊢
  have HNL := hide hN0
  unfold szC at CP
  simp only at CP
  clear hhit hnone h hN0 hp
  go_enter Try.func43, Try.ntmps43
  go_wp2_with fail
  go_loopw [8] (fun i wr => ∃ k : Nat, k ≤ N ∧ i = .int .i64 (k : Int) ∧ Hid (∀ j, j < k → p (l.getD j noSz) = false) ∧ Hid (MxS w wr (.slice ao N cap) l)) (fun i _ => (N - intOf i).toNat)
  case atStart => exact ⟨0, Nat.zero_le _, by go_num, hide (fun j hj => by omega), ST0⟩
  case round =>
    clear ST0
    obtain ⟨k, hk, rfl, HP, ST⟩ := hrel
    by_cases hkl : k < N
    · have hi : (k : Int) < (N : Int) := by omega
      have hn2 : ¬ (k : Int) < 0 := by omega
      have hkl2 : k < l.length := by rw [← HNL.out]; exact hkl
      obtain ⟨b, off, rfl, hlt, x0, x1, x2, x3, x4, x5, x6⟩ := (ST.out).l.at hkl2
      have hh := (HH.out) k HP.out hkl
      have hp2 : p (l.getD k noSz) = false → Hid (∀ j, j < k + 1 → p (l.getD j noSz) = false) := fun hf => hide (fun j hj => by
        by_cases e : j = k
        · rw [e]; exact hf
        · exact HP.out j (by omega))
      generalize l.getD k noSz = x at x0 x1 x2 x3 x4 x5 x6 hh hp2
      obtain ⟨a1, a2, a3, q, a5, a6, a7⟩ := x
      have C1 := hide (fun W h => (CP.out) a1 a2 a3 q a5 a6 a7 W h)
      simp only at x0 x1 x2 x3 x4 x5 x6
      have HH2 := hide hh
      have HP2 := hide hp2
      clear hh hp2 HP HN HH CP
      cases hd : p ⟨a1, a2, a3, q, a5, a6, a7⟩
      · have HP3 := (HP2.out) hd
        rw [hd] at C1
        clear hd HP2 HH2
        go_wp2_with fail
        refine Calls.mono ((C1.out) _ ST.out) ?_
        rintro e w1 ⟨rfl, hs⟩
        have ST1 := hide hs
        clear x0 x1 x2 x3 x4 x5 x6 hs ST
        go_wp2_with fail
        go_roundw
        case rel => exact ⟨k + 1, by omega, by go_num, HP3, ST1⟩
        case measure => simp [intOf]; omega
      · have hv := (HH2.out) hd
        have HV := hide hv
        rw [hd] at C1
        clear hd HP2 HH2 hv
        go_wp2_with fail
        refine Calls.mono ((C1.out) _ ST.out) ?_
        rintro e w1 ⟨rfl, hs⟩
        have ST1 := hide hs
        clear x0 x1 x2 x3 x4 x5 x6 hs ST
        go_wp2_with fail
        go_ret
        exact ⟨by rw [HV.out] <;> rfl, (ST1.out).bel⟩
    · have hi : ¬ (k : Int) < (N : Int) := by omega
      have hv := (HN.out) (fun i hi => HP.out i (by omega))
      have HV := hide hv
      clear hv HP HN HH CP
      go_wp2_with fail
      go_ret
      exact ⟨by rw [HV.out] <;> rfl, (ST.out).bel⟩

set_option maxRecDepth 100000 in
set_option maxHeartbeats 2000000 in
theorem anyGo_any (p : SzD → Bool) (hp : ∀ s W, Calls Try.prog 36 #[.agg (szC s)] W fun e w' => e = .returned (.bool (p s)) ∧ Below W.heap.size W w') (v : Value) (l : List SzD) (w : World) (h : SzL w v l) (hN : l.length ≤ 1000000) :
    Calls Try.prog 35 #[v, .func (.func 36) #[] #[]] w fun e w' => e = .returned (.bool (l.any p)) ∧ Below w.heap.size w w' := by
  have c := hide (idxGo_any p hp v l w h hN)
  have hge := idxG_ge p l
  have hany := idxG_any p l
  rw [hany]
  generalize idxG p l = R at *
  clear hany h hp
  go_enter Try.func35, Try.ntmps35
  go_wp2_with fail
  refine Calls.mono c.out ?_
  rintro e w1 ⟨rfl, hb⟩
  have HB := hide hb
  clear hb
  go_wp2_with fail
  go_ret
  exact ⟨rfl, HB.out⟩


end Go.Proofs.Ytaogioogpodmkaa

namespace Go.Proofs.Ytaogioogpodmkaa
open Go.RowKit

set_option maxRecDepth 100000 in
set_option maxHeartbeats 1000000 in
theorem isSize25_any (n : Int) (w : World) : Calls Try.prog 18 #[.int .i64 n] w fun e w' => e = .returned (.bool (isSz n)) ∧ w' = w := by
  have hL : isSz n = (decide (0 ≤ n) && isLen n) := rfl
  have HL := hide hL
  have CI := hide (fun W => is_any n W)
  clear hL
  by_cases h : 0 ≤ n
  · go_enter Try.func18, Try.ntmps18
    go_wp2_with fail
    refine Calls.mono ((CI.out) _) ?_
    rintro e w' ⟨rfl, rfl⟩
    go_wp2_with fail
    go_ret
    exact ⟨bret22 (by rw [HL.out, decide_eq_true h]; rfl), rfl⟩
  · go_enter Try.func18, Try.ntmps18
    go_wp2_with fail
    go_ret
    exact ⟨bret22 (by rw [HL.out, decide_eq_false (by omega)]; rfl), rfl⟩

set_option maxRecDepth 100000 in
set_option maxHeartbeats 1000000 in
theorem noSize25_any (n : Int) (w : World) : Calls Try.prog 17 #[.int .i64 n] w fun e w' => e = .returned (.bool (!isSz n)) ∧ w' = w := by
  have CI := hide (fun W => isSize25_any n W)
  generalize isSz n = Z at *
  cases Z
  all_goals
    go_enter Try.func17, Try.ntmps17
    go_wp2_with fail
    refine Calls.mono ((CI.out) _) ?_
    rintro e w' ⟨rfl, rfl⟩
    go_wp2_with fail
    go_ret
    exact ⟨rfl, rfl⟩

set_option maxRecDepth 100000 in
set_option maxHeartbeats 1000000 in
theorem areGood1_any (s : SzD) (w : World) : Calls Try.prog 36 #[.agg (szC s)] w fun e w' => e = .returned (.bool (!goodS s)) ∧ Below w.heap.size w w' := by
  obtain ⟨a1, a2, a3, q, a5, a6, a7⟩ := s
  have CI := hide (fun W => good22_any ⟨a1, a2, a3, q, a5, a6, a7⟩ W)
  unfold szC at CI ⊢
  simp only at CI ⊢
  generalize goodS ⟨a1, a2, a3, q, a5, a6, a7⟩ = Z at *
  have B0 : Hid (Below w.heap.size w (w.alloc (.cells #[.int .i64 a1, .int .i64 a2, .int .i64 a3, .bool q, .int .i64 a5, .int .i64 a6, .int .i64 a7] 36))) := hide ((Below.refl _ w).alloc (Nat.le_refl _) _)
  have s6 : SzR (w.alloc (.cells #[.int .i64 a1, .int .i64 a2, .int .i64 a3, .bool q, .int .i64 a5, .int .i64 a6, .int .i64 a7] 36)) w.heap.size ⟨a1, a2, a3, q, a5, a6, a7⟩ := SzR.new w ⟨a1, a2, a3, q, a5, a6, a7⟩
  have HS6 := hide s6
  clear s6
  cases Z
  all_goals
    go_enter Try.func36, Try.ntmps36
    go_upto_region 1 with fail
    generalize w.alloc (.cells #[.int .i64 a1, .int .i64 a2, .int .i64 a3, .bool q, .int .i64 a5, .int .i64 a6, .int .i64 a7] 36) = w1 at *
    obtain ⟨y0, y1, y2, y3, y4, y5, y6⟩ := (HS6.out).cells
    go_wp2_with fail
    refine Calls.mono ((CI.out) _) ?_
    rintro e w2 ⟨rfl, hb⟩
    have HB : Hid (Below w.heap.size w w2) := hide ((B0.out).trans (hb.mono (B0.out).size))
    clear hb
    go_wp2_with fail
    go_ret
    exact ⟨rfl, HB.out⟩

theorem any_not_all (l : List SzD) : (l.any fun s => !goodS s) = !(l.all goodS) := by
  induction l with
  | nil => rfl
  | cons x r ih => simp only [List.any_cons, List.all_cons, ih]; cases goodS x <;> rfl

set_option maxRecDepth 100000 in
set_option maxHeartbeats 1000000 in
theorem areGood25_any (v : Value) (l : List SzD) (w : World) (h : SzL w v l) (hN : l.length ≤ 1000000) : Calls Try.prog 19 #[v] w fun e w' => e = .returned (.bool (l.all goodS)) ∧ Below w.heap.size w w' := by
  have C := hide (anyGo_any (fun s => !goodS s) areGood1_any v l w h hN)
  rw [any_not_all] at C
  generalize l.all goodS = Z at *
  clear h
  cases Z
  all_goals
    go_enter Try.func19, Try.ntmps19
    go_wp2_with fail
    refine Calls.mono C.out ?_
    rintro e w2 ⟨rfl, hb⟩
    have HB := hide hb
    clear hb
    go_wp2_with fail
    go_ret
    exact ⟨rfl, HB.out⟩

set_option maxRecDepth 100000 in
set_option maxHeartbeats 4000000 in
theorem idxNo_any (ao : Option Addr) (N cap : Nat) (f : Nat → Int) (w : World) (h : ArI w ao N f) (hN : N ≤ 1000000) :
    Calls Try.prog 38 #[.slice ao N cap, .func (.func 17) #[] #[]] w fun e w' => ∃ r, e = .returned (.int .i64 r) ∧ ((0 ≤ r ∧ szS f N = false) ∨ (r < 0 ∧ szS f N = true)) ∧ w' = w := by
  have HA := hide h
  have CN := hide (fun n W => noSize25_any n W)
  clear h
  go_enter Try.func38, Try.ntmps38
  go_wp2_with fail
  go_loop [8] (fun i => ∃ k : Nat, k ≤ N ∧ i = .int .i64 (k : Int) ∧ Hid (szS f k = true)) (fun i => (N - intOf i).toNat)
  case atStart => exact ⟨0, Nat.zero_le _, by go_num, hide rfl⟩
  case round =>
    obtain ⟨k, hk, rfl, HP⟩ := hrel
    by_cases hkl : k < N
    · have hi : (k : Int) < (N : Int) := by omega
      have hn2 : ¬ (k : Int) < 0 := by omega
      obtain ⟨b, off, rfl, hc⟩ := (HA.out).at hkl
      have HSS : Hid (szS f (k + 1) = (szS f k && isSz (f k))) := hide rfl
      have HNO := hide (fun h => szS_not (f := f) hkl h)
      have C1 := hide (fun W => (CN.out) (f k) W)
      generalize isSz (f k) = Z at *
      generalize f k = x at *
      clear CN
      cases Z
      · have HV := hide ((HNO.out) rfl)
        clear HNO HSS HP
        go_wp2_with fail
        refine Calls.mono ((C1.out) _) ?_
        rintro e w1 ⟨rfl, rfl⟩
        go_wp2_with fail
        go_ret
        exact ⟨_, rfl, .inl ⟨by omega, HV.out⟩, rfl⟩
      · have HP2 : Hid (szS f (k + 1) = true) := hide (by rw [HSS.out, HP.out]; rfl)
        clear HNO HSS HP
        go_wp2_with fail
        refine Calls.mono ((C1.out) _) ?_
        rintro e w1 ⟨rfl, rfl⟩
        go_wp2_with fail
        go_round
        case rel => exact ⟨k + 1, by omega, by go_num, HP2⟩
        case measure => simp [intOf]; omega
    · have hi : ¬ (k : Int) < (N : Int) := by omega
      have hp := HP.out
      rw [show k = N by omega] at hp
      have HP2 := hide hp
      clear hp HP
      go_wp2_with fail
      go_ret
      exact ⟨_, rfl, .inr ⟨by decide, HP2.out⟩, rfl⟩

set_option maxRecDepth 100000 in
set_option maxHeartbeats 1000000 in
theorem anyNo_any (ao : Option Addr) (N cap : Nat) (f : Nat → Int) (w : World) (h : ArI w ao N f) (hN : N ≤ 1000000) :
    Calls Try.prog 20 #[.slice ao N cap, .func (.func 17) #[] #[]] w fun e w' => e = .returned (.bool (!szS f N)) ∧ w' = w := by
  have C := hide (idxNo_any ao N cap f w h hN)
  generalize szS f N = Z at *
  clear h
  go_enter Try.func20, Try.ntmps20
  go_wp2_with fail
  refine Calls.mono C.out ?_
  rintro e w2 ⟨r, rfl, hr, rfl⟩
  rcases hr with ⟨h0, rfl⟩ | ⟨h0, rfl⟩
  · go_wp2_with fail
    go_ret
    exact ⟨bret22 (by simp), rfl⟩
  · have h1 : ¬ 0 ≤ r := by omega
    go_wp2_with fail
    go_ret
    exact ⟨bret22 (by simp; omega), rfl⟩

end Go.Proofs.Ytaogioogpodmkaa

namespace Go.Proofs.Ytaogioogpodmkaa
open Go.RowKit

theorem szsC_one : ∀ (l : List SzD) (u : Value), u ∈ szsC l → u.oneCell' = true
  | [], u, h => absurd h (by simp [szsC])
  | s :: r, u, h => by
    rw [szsC, List.mem_append] at h
    rcases h with h | h
    · simp [szC] at h
      rcases h with rfl | rfl | rfl | rfl | rfl | rfl | rfl <;> rfl
    · exact szsC_one r u h

theorem SzL.news {w : World} {b off N c : Nat} {l : List SzD} (h : SzL w (.slice (some ⟨b, off, none⟩) N c) l) : ∀ j u, (szsC l)[j]? = some u → w.cell? ⟨b, off + j, none⟩ = some u := by
  intro j u hu
  have hj : j < l.length * 7 := by
    have := (List.getElem?_eq_some_iff.1 hu).1
    rwa [szsC_len] at this
  rcases h with ⟨he, _⟩ | ⟨b', off', c', hv, _, hc⟩
  · rw [he] at hj; simp at hj
  · obtain ⟨⟨rfl, rfl⟩, -, -⟩ : (b = b' ∧ off = off') ∧ N = l.length ∧ c = c' := by simpa using hv
    have hk : j / 7 < l.length := by omega
    have hlt : j % 7 < 7 := by omega
    have e : j = j / 7 * 7 + j % 7 := by omega
    have h7 : (szC (l.getD (j / 7) noSz)).toList.length = 7 := rfl
    have e2 := szsC_at l (j / 7) hk (j % 7) _ (List.getElem?_eq_getElem (by rw [h7]; exact hlt))
    rw [← e, hu] at e2
    have e3 := hc (j / 7) hk (j % 7) _ (List.getElem?_eq_getElem (by rw [h7]; exact hlt))
    rw [Nat.add_assoc, ← e] at e3
    rw [e3, ← e2]

set_option maxHeartbeats 4000000 in
set_option maxRecDepth 100000 in
theorem clone_sz (v : Value) (l : List SzD) (w : World) (h : SzL w v l) (hN : l.length ≤ 1000000) : Calls Try.prog 23 #[v] w fun e w' => ∃ u, e = .returned u ∧ w'.ownsRow w.heap.size 36 7 u l.length (szsC l) ∧ Below w.heap.size w w' := by
  obtain ⟨ao, cap, rfl⟩ := h.slice
  obtain ⟨i0, hinf, hz0, hz1, hz2⟩ := info_parts szT22
  have q0 : ∀ (w : World) (a : Option Addr) (n c n' c' : Nat), (binOp .eql 22 (.slice a n c) (.slice none n' c')).run Try.prog w = .ok (.bool a.isNone) w := fun w a n c n' c' => Lib.run_eql_slice_nil w _ _ a n c n' c' Try.underlying22
  have u0 : ∀ w, Sem.run Try.prog (underlying 22) w = .ok (TypeDesc.slice 36) w := run_underlying Try.underlying22
  cases ao with
  | none =>
    have he : l = [] := by
      rcases h with ⟨he, _⟩ | ⟨b', off', c', hv, _, hc⟩
      · exact he
      · simp at hv
    subst he
    go_enter Try.func23, Try.ntmps23
    go_wp2_with fail
    go_ret
    exact ⟨_, rfl, World.ownsRow_nil _ _ _ _, Below.refl _ _⟩
  | some a =>
    have hnews : ∀ j u, (szsC l)[j]? = some u → w.cell? (a.add j) = some u := by
      intro j u hu
      by_cases h0 : l = []
      · subst h0; simp [szsC] at hu
      · rcases h with ⟨he, _⟩ | ⟨b', off', c', hv, hlt, hc⟩
        · exact absurd he h0
        · obtain ⟨rfl, -, -⟩ : a = ⟨b', off', none⟩ ∧ True ∧ cap = c' := by simpa using hv
          rw [Addr.add_lit]
          exact (SzL.news (N := l.length) (c := cap) (.inr ⟨b', off', _, rfl, hlt, hc⟩)) j u hu
    have HNW := hide hnews
    have HO := hide (szsC_one l)
    have hlen := szsC_len l
    generalize szsC l = S at *
    generalize l.length = N at *
    clear hnews h
    go_enter Try.func23, Try.ntmps23
    go_wp2_with (at_builtin; refine wpList_append_own _ rfl _ _ 22 rfl w.heap.size 36 i0 _ 7 56 Try.underlying22 hinf hz0 hz1 hz2 rfl (by decide) _ _ _ rfl (World.ownsRow_made w #[] 0 (Nat.le_refl _) (Nat.zero_le _) rfl) a N cap S rfl ?qc1 ?qc2 ?qc3 ?qc4 ?qc5 ?qc6 ?_)
    case qc1 => omega
    case qc2 =>
      intro j u hj
      exact Lib.cell?_alloc_some _ ((HNW.out) j u hj)
    case qc3 => exact HO.out
    case qc4 => unfold maxLen; omega
    case qc5 => omega
    case qc6 => simp
    intro v' w1 hown hgrow hnil
    have HW := hide hown
    have HG := hide hgrow
    clear hown hgrow hnil
    go_wp2
    go_ret
    refine ⟨v', rfl, by simpa using HW.out, ?_⟩
    exact ((Below.refl _ w).alloc (Nat.le_refl _) _).grown HG.out (by simp) (by intro k hk; simp [Value.ownBlock] at hk; omega)

/-- A row of tracks that are sized, each told by its place. -/
def CpR (W : World) (G N : Nat) (g : Nat → SzD) : Prop := ∃ cs : Array Value, W.heap[G]? = some (.cells cs 36 (0, 0)) ∧ N * 7 ≤ cs.size ∧ ∀ i, i < N → ∀ j u, (szC (g i)).toList[j]? = some u → cs[i * 7 + j]? = some u

theorem CpR.lt {W : World} {G N : Nat} {g : Nat → SzD} (h : CpR W G N g) : G < W.heap.size := by
  obtain ⟨cs, h1, _⟩ := h
  exact (Array.getElem?_eq_some_iff.1 h1).1

theorem CpR.of_block {W W' : World} {G N : Nat} {g : Nat → SzD} (h : CpR W G N g) (hb : W'.heap[G]? = W.heap[G]?) : CpR W' G N g := by
  obtain ⟨cs, h1, h2⟩ := h
  exact ⟨cs, hb.trans h1, h2⟩

theorem CpR.ext {W : World} {G N : Nat} {g g' : Nat → SzD} (h : CpR W G N g) (he : ∀ i, i < N → g i = g' i) : CpR W G N g' := by
  obtain ⟨cs, h1, h2, h3⟩ := h
  exact ⟨cs, h1, h2, fun i hi j u hu => h3 i hi j u (by rw [he i hi]; exact hu)⟩

theorem CpR.own {W : World} {base G N cap : Nat} {l : List SzD} (h : W.ownsRow base 36 7 (.slice (some ⟨G, 0, none⟩) N cap) N (szsC l)) (hl : l.length = N) : CpR W G N (fun i => l.getD i noSz) := by
  have h' := h
  rcases h.2 with ⟨hv, hn⟩ | ⟨g, cap', cur, hv, hb, hg, hnc, hcm, hcs, htake⟩
  · simp at hv
  · obtain ⟨rfl, -⟩ : G = g ∧ cap = cap' := by simpa using hv
    refine ⟨cur, hg, by rw [hcs]; exact Nat.mul_le_mul_right 7 hnc, fun i hi j u hu => ?_⟩
    have hj : j < 7 := (List.getElem?_eq_some_iff.1 hu).1
    have ha := szsC_at l i (by omega) j u hu
    rw [← htake, List.getElem?_take_of_lt (by omega)] at ha
    simpa using ha

theorem CpR.seven {W : World} {G N : Nat} {g : Nat → SzD} (h : CpR W G N g) {k : Nat} (hk : k < N) : (∀ m, W.frozen? ⟨G, m, none⟩ = false) ∧ W.cell? ⟨G, k * 7, none⟩ = some (.int .i64 (g k).mn) ∧ W.cell? ⟨G, k * 7 + 1, none⟩ = some (.int .i64 (g k).mx) ∧ W.cell? ⟨G, k * 7 + 2, none⟩ = some (.int .i64 (g k).fr) ∧ W.cell? ⟨G, k * 7 + 3, none⟩ = some (.bool (g k).fit) ∧ W.cell? ⟨G, k * 7 + 4, none⟩ = some (.int .i64 (g k).cap) ∧ W.cell? ⟨G, k * 7 + 5, none⟩ = some (.int .i64 (g k).base) ∧ W.cell? ⟨G, k * 7 + 6, none⟩ = some (.int .i64 (g k).limit) := by
  obtain ⟨cs, h1, h2, h3⟩ := h
  refine ⟨fun m => Lib.frozen_of_heap h1 m, ?_, ?_, ?_, ?_, ?_, ?_, ?_⟩ <;> rw [Lib.cell_of_heap h1]
  · exact h3 k hk 0 _ rfl
  · exact h3 k hk 1 _ rfl
  · exact h3 k hk 2 _ rfl
  · exact h3 k hk 3 _ rfl
  · exact h3 k hk 4 _ rfl
  · exact h3 k hk 5 _ rfl
  · exact h3 k hk 6 _ rfl

theorem CpR.put {W : World} {G N : Nat} {g : Nat → SzD} (h : CpR W G N g) {k : Nat} (hk : k < N) (s : SzD) : CpR (((((((W.setCell ⟨G, k * 7, none⟩ (.int .i64 s.mn)).setCell ⟨G, k * 7 + 1, none⟩ (.int .i64 s.mx)).setCell ⟨G, k * 7 + 2, none⟩ (.int .i64 s.fr)).setCell ⟨G, k * 7 + 3, none⟩ (.bool s.fit)).setCell ⟨G, k * 7 + 4, none⟩ (.int .i64 s.cap)).setCell ⟨G, k * 7 + 5, none⟩ (.int .i64 s.base)).setCell ⟨G, k * 7 + 6, none⟩ (.int .i64 s.limit)) G N (fun i => if i = k then s else g i) := by
  obtain ⟨cs, h1, h2, h3⟩ := h
  have st : ∀ (Z : World) (a : Array Value) (j : Nat) (v : Value), Z.heap[G]? = some (.cells a 36 (0, 0)) → (Z.setCell ⟨G, j, none⟩ v).heap[G]? = some (.cells (a.setIfInBounds j v) 36 (0, 0)) := fun Z a j v hZ => by
    simp [World.setCell, Array.getElem?_modify, hZ]
  have g6 := st _ _ (k * 7 + 6) (.int .i64 s.limit) (st _ _ (k * 7 + 5) (.int .i64 s.base) (st _ _ (k * 7 + 4) (.int .i64 s.cap) (st _ _ (k * 7 + 3) (.bool s.fit) (st _ _ (k * 7 + 2) (.int .i64 s.fr) (st _ _ (k * 7 + 1) (.int .i64 s.mx) (st _ _ (k * 7) (.int .i64 s.mn) h1))))))
  refine ⟨_, g6, by simpa using h2, fun i hi j u hu => ?_⟩
  have hj : j < 7 := (List.getElem?_eq_some_iff.1 hu).1
  by_cases hil : i = k
  · subst hil
    simp only [if_pos] at hu
    simp only [Array.getElem?_setIfInBounds, Array.size_setIfInBounds]
    obtain rfl | rfl | rfl | rfl | rfl | rfl | rfl : j = 0 ∨ j = 1 ∨ j = 2 ∨ j = 3 ∨ j = 4 ∨ j = 5 ∨ j = 6 := by omega
    all_goals (simp [szC] at hu; subst hu; simp; try omega)
  · simp only [if_neg hil] at hu
    have := h3 i hi j u hu
    simp only [Array.getElem?_setIfInBounds]
    rw [if_neg (by omega), if_neg (by omega), if_neg (by omega), if_neg (by omega), if_neg (by omega), if_neg (by omega), if_neg (by omega)]
    exact this

theorem CpR.putB {W : World} {G N : Nat} {g : Nat → SzD} (h : CpR W G N g) {k : Nat} (hk : k < N) (y : Int) : CpR (W.setCell ⟨G, k * 7 + 5, none⟩ (.int .i64 y)) G N (fun i => if i = k then ⟨(g k).mn, (g k).mx, (g k).fr, (g k).fit, (g k).cap, y, (g k).limit⟩ else g i) := by
  obtain ⟨cs, h1, h2, h3⟩ := h
  have st : ∀ (Z : World) (a : Array Value) (j : Nat) (v : Value), Z.heap[G]? = some (.cells a 36 (0, 0)) → (Z.setCell ⟨G, j, none⟩ v).heap[G]? = some (.cells (a.setIfInBounds j v) 36 (0, 0)) := fun Z a j v hZ => by
    simp [World.setCell, Array.getElem?_modify, hZ]
  refine ⟨_, st _ _ (k * 7 + 5) (.int .i64 y) h1, by simpa using h2, fun i hi j u hu => ?_⟩
  have hj : j < 7 := (List.getElem?_eq_some_iff.1 hu).1
  by_cases hil : i = k
  · subst hil
    simp only [if_pos] at hu
    simp only [Array.getElem?_setIfInBounds]
    by_cases h5 : j = 5
    · subst h5
      simp [szC] at hu
      subst hu
      simp
      omega
    · rw [if_neg (by omega)]
      refine h3 i hi j u ?_
      obtain rfl | rfl | rfl | rfl | rfl | rfl : j = 0 ∨ j = 1 ∨ j = 2 ∨ j = 3 ∨ j = 4 ∨ j = 6 := by omega
      all_goals exact hu
  · simp only [if_neg hil] at hu
    have := h3 i hi j u hu
    simp only [Array.getElem?_setIfInBounds]
    rw [if_neg (by omega)]
    exact this

theorem cpR_SzL {W : World} {G N cap : Nat} {g : Nat → SzD} (h : CpR W G N g) : SzL W (.slice (some ⟨G, 0, none⟩) N cap) ((List.range N).map g) := by
  obtain ⟨cs, h1, h2, h3⟩ := h
  refine .inr ⟨G, 0, cap, by simp, (Array.getElem?_eq_some_iff.1 h1).1, fun i hi j u hu => ?_⟩
  have hi' : i < N := by simpa using hi
  rw [List.getD, List.getElem?_map, List.getElem?_range hi'] at hu
  rw [Lib.cell_of_heap h1, Nat.zero_add]
  exact h3 i hi' j u hu

end Go.Proofs.Ytaogioogpodmkaa

namespace Go.Proofs.Ytaogioogpodmkaa
open Go.RowKit

/-- The blocks from a place on that were there are as they were. -/
def KeepA (m : Nat) (W W' : World) : Prop := W.heap.size ≤ W'.heap.size ∧ ∀ q, m ≤ q → q < W.heap.size → W'.heap[q]? = W.heap[q]?

/-- What stands while a copy of tracks gets more. -/
structure GrS (m b0 : Nat) (w W : World) (G N : Nat) (g : Nat → SzD) : Prop where
  row : CpR W G N g
  bel : Below m w W
  hm : m ≤ b0
  hG : b0 ≤ G
  hw : b0 = w.heap.size

theorem GrS.next {m b0 : Nat} {w W W' : World} {G N : Nat} {g : Nat → SzD} (h : GrS m b0 w W G N g) (hb : Below W.heap.size W W') : GrS m b0 w W' G N g :=
  ⟨h.row.of_block (hb.block _ h.row.lt), h.bel.trans (hb.mono (by have := h.bel.size; have := h.hm; have := h.hw; omega)), h.hm, h.hG, h.hw⟩

theorem GrS.call {m b0 : Nat} {w W W' : World} {G N : Nat} {g : Nat → SzD} (h : GrS m b0 w W G N g) (hb : Below m W W') (hk : KeepA b0 W W') : GrS m b0 w W' G N g :=
  ⟨h.row.of_block (hk.2 _ h.hG h.row.lt), h.bel.trans hb, h.hm, h.hG, h.hw⟩

theorem GrS.drew {m b0 : Nat} {w W : World} {G N : Nat} {g : Nat → SzD} (h : GrS m b0 w W G N g) : GrS m b0 w W.drew G N g := h.next (Below.refl _ W).drew

theorem GrS.ext {m b0 : Nat} {w W : World} {G N : Nat} {g g' : Nat → SzD} (h : GrS m b0 w W G N g) (he : ∀ i, i < N → g i = g' i) : GrS m b0 w W G N g' := ⟨h.row.ext he, h.bel, h.hm, h.hG, h.hw⟩

theorem GrS.put {m b0 : Nat} {w W : World} {G N : Nat} {g : Nat → SzD} (h : GrS m b0 w W G N g) {k : Nat} (hk : k < N) (a b c e f l : Int) (q : Bool) : GrS m b0 w (((((((W.setCell ⟨G, k * 7, none⟩ (.int .i64 a)).setCell ⟨G, k * 7 + 1, none⟩ (.int .i64 b)).setCell ⟨G, k * 7 + 2, none⟩ (.int .i64 c)).setCell ⟨G, k * 7 + 3, none⟩ (.bool q)).setCell ⟨G, k * 7 + 4, none⟩ (.int .i64 e)).setCell ⟨G, k * 7 + 5, none⟩ (.int .i64 f)).setCell ⟨G, k * 7 + 6, none⟩ (.int .i64 l)) G N (fun i => if i = k then ⟨a, b, c, q, e, f, l⟩ else g i) := by
  have p : ∀ (Z : World) (j : Nat) (x : Value), Below m w Z → Below m w (Z.setCell ⟨G, j, none⟩ x) := fun Z j x hZ => hZ.setCell (p := ⟨G, j, none⟩) (by show m ≤ G; have := h.hm; have := h.hG; omega) x
  exact ⟨h.row.put hk ⟨a, b, c, q, e, f, l⟩, p _ _ _ (p _ _ _ (p _ _ _ (p _ _ _ (p _ _ _ (p _ _ _ (p _ _ _ h.bel)))))), h.hm, h.hG, h.hw⟩

theorem GrS.putB {m b0 : Nat} {w W : World} {G N : Nat} {g : Nat → SzD} (h : GrS m b0 w W G N g) {k : Nat} (hk : k < N) (y : Int) : GrS m b0 w (W.setCell ⟨G, k * 7 + 5, none⟩ (.int .i64 y)) G N (fun i => if i = k then ⟨(g k).mn, (g k).mx, (g k).fr, (g k).fit, (g k).cap, y, (g k).limit⟩ else g i) :=
  ⟨h.row.putB hk y, h.bel.setCell (p := ⟨G, k * 7 + 5, none⟩) (by show m ≤ G; have := h.hm; have := h.hG; omega) _, h.hm, h.hG, h.hw⟩

theorem below_put7 {m : Nat} {W : World} {G : Nat} (hG : m ≤ G) (k : Nat) (v0 v1 v2 v3 v4 v5 v6 : Value) : Below m W (((((((W.setCell ⟨G, k * 7, none⟩ v0).setCell ⟨G, k * 7 + 1, none⟩ v1).setCell ⟨G, k * 7 + 2, none⟩ v2).setCell ⟨G, k * 7 + 3, none⟩ v3).setCell ⟨G, k * 7 + 4, none⟩ v4).setCell ⟨G, k * 7 + 5, none⟩ v5).setCell ⟨G, k * 7 + 6, none⟩ v6) := by
  have p : ∀ (Z : World) (j : Nat) (x : Value), Below m W Z → Below m W (Z.setCell ⟨G, j, none⟩ x) := fun Z j x hZ => hZ.setCell (p := ⟨G, j, none⟩) hG x
  exact p _ _ _ (p _ _ _ (p _ _ _ (p _ _ _ (p _ _ _ (p _ _ _ (p _ _ _ (Below.refl _ _)))))))

/-- What one has when it got more. -/
def gtV (l : List SzD) (x : Nat → Int) (k : Nat) : SzD := raiseV (addB (l.getD k noSz) (x k))

/-- The first ones have more. -/
def gtF (l : List SzD) (x : Nat → Int) (k i : Nat) : SzD := if i < k then gtV l x i else l.getD i noSz

def gtL (l : List SzD) (x : Nat → Int) : List SzD := (List.range l.length).map (gtV l x)

/-- What is asked of what tells how much more each gets. -/
structure Gets (m b0 N : Nat) (INV : Nat → World → Prop) (x : Nat → Int) (call : Nat → World → (Ending → World → Prop) → Prop) : Prop where
  keep : ∀ k W W', INV k W → Below b0 W W' → INV k W'
  tell : ∀ k W, k < N → INV k W → call k W fun e W' => e = .returned (.int .i64 (x k)) ∧ INV (k + 1) W' ∧ Below m W W' ∧ KeepA b0 W W'

set_option maxRecDepth 100000 in
set_option maxHeartbeats 8000000 in
theorem greaterGr_any (B m : Nat) (v : Value) (l : List SzD) (x : Nat → Int) (INV : Nat → World → Prop) (w : World) (h : SzL w v l) (hN : l.length ≤ 1000000) (hm : m ≤ w.heap.size) (h0 : INV 0 w)
    (hb : ∀ k, k < l.length → -9223372036854775808 ≤ (l.getD k noSz).base + x k ∧ (l.getD k noSz).base + x k ≤ 9223372036854775807)
    (hg : Gets m w.heap.size l.length INV x (fun k W Q => Calls Try.prog 26 #[.int .i64 (k : Int), .pointer (some ⟨B, 0, none⟩)] W Q)) :
    Calls Try.prog 25 #[v, .func (.func 26) #[] #[.pointer (some ⟨B, 0, none⟩)]] w fun e w' => ∃ u, e = .returned u ∧ SzL w' u (gtL l x) ∧ Below m w w' := by
  have CC := hide (clone_sz v l w h hN)
  have HB := hide hb
  have HK := hide hg.keep
  have HT := hide hg.tell
  have HR : Hid (gtL l x = (List.range l.length).map (gtV l x)) := hide rfl
  have I0 := hide h0
  obtain ⟨b0, hb0⟩ : ∃ b0, b0 = w.heap.size := ⟨_, rfl⟩
  obtain ⟨N, hN0⟩ : ∃ N, N = l.length := ⟨_, rfl⟩
  have HNL := hide hN0
  have CRA := hide (fun a b c q e f g W => raise22_any ⟨a, b, c, q, e, f, g⟩ W)
  have HGV : Hid (∀ k, gtV l x k = raiseV (addB (l.getD k noSz) (x k))) := hide (fun k => rfl)
  have HG0 : Hid (∀ i, l.getD i noSz = gtF l x 0 i) := hide (fun i => rfl)
  have HGS : Hid (∀ k i (z y : SzD), gtV l x k = z → (if i = k then z else if i = k then y else gtF l x k i) = gtF l x (k + 1) i) := hide (fun k i z y hz => by
    unfold gtF
    by_cases hi : i = k
    · subst hi
      rw [if_pos rfl, if_pos (Nat.lt_succ_self _), hz]
    · rw [if_neg hi, if_neg hi]
      by_cases h2 : i < k
      · rw [if_pos h2, if_pos (by omega)]
      · rw [if_neg h2, if_neg (by omega)])
  have HGK : Hid (∀ k, gtF l x k k = l.getD k noSz) := hide (fun k => by unfold gtF; rw [if_neg (Nat.lt_irrefl _)])
  have HGN : Hid (∀ N, (List.range N).map (gtF l x N) = (List.range N).map (gtV l x)) := hide (fun N => List.map_congr_left (fun a ha => by unfold gtF; rw [if_pos (List.mem_range.1 ha)]))
  unfold szC raiseV at CRA
  simp only at CRA
  generalize gtL l x = R at *
  rw [← hN0] at CC HB HT HR hN
  rw [← hb0] at hm HK HT
  have HBW := hide hb0
  have HCI := hide (fun (u : Value) (ua : Option Addr) (uc : Nat) (e : u = .slice ua l.length uc) => e)
  clear h hb hg h0 HCI hN0 hb0
  go_enter Try.func25, Try.ntmps25
  go_wp2_with fail
  refine Calls.mono CC.out ?_
  rintro e w1 ⟨u, rfl, hown, hbel⟩
  obtain ⟨ua, uc, rfl⟩ := own_sl22 hown
  have I1 := hide ((HK.out) 0 _ _ I0.out (by rw [HBW.out]; exact hbel))
  have HBL := hide hbel
  have HOW := hide hown
  clear hbel hown I0 CC
  by_cases hN1 : N = 0
  · subst hN1
    have hv : Hid (SzL w1 (.slice ua 0 uc) R) := hide (by rw [HR.out]; exact .inl ⟨rfl, _, _, rfl⟩)
    clear HR HGV HG0 HGS HGK HGN HOW HT HK HB
    go_wp2_with fail
    go_loopw [11] (fun i wr => i = .int .i64 0 ∧ wr = w1) (fun i _ => 0)
    case atStart => exact ⟨rfl, rfl⟩
    case round =>
      obtain ⟨rfl, rfl⟩ := hrel
      go_wp2_with fail
      go_ret
      exact ⟨_, rfl, hv.out, (HBL.out).mono (by have := HBW.out; omega)⟩
  · obtain ⟨G, hua, hG⟩ : ∃ G, ua = some ⟨G, 0, none⟩ ∧ w.heap.size ≤ G := by
      rcases (HOW.out).2 with ⟨hv, hn⟩ | ⟨g, cap', cur, hv, hb, _⟩
      · exact absurd hn hN1
      · obtain ⟨rfl, -⟩ : ua = some ⟨g, 0, none⟩ ∧ uc = cap' := by simpa using hv
        exact ⟨g, rfl, hb⟩
    subst hua
    have ST0 : Hid (GrS m b0 w w1 G N (gtF l x 0)) := hide ⟨(CpR.own (HOW.out) (HNL.out).symm).ext (fun i _ => (HG0.out) i), (HBL.out).mono (by have := HBW.out; omega), hm, by have := HBW.out; omega, HBW.out⟩
    clear HOW HBL HG0 hN1 hG
    go_wp2_with fail
    go_loopw [11] (fun i wr => ∃ k : Nat, k ≤ N ∧ i = .int .i64 (k : Int) ∧ Hid (INV k wr) ∧ Hid (GrS m b0 w wr G N (gtF l x k))) (fun i _ => (N - intOf i).toNat)
    case atStart => exact ⟨0, Nat.zero_le _, by go_num, I1, ST0⟩
    case round =>
      clear ST0 I1
      obtain ⟨k, hk, rfl, HI, ST⟩ := hrel
      by_cases hkl : k < N
      · have hi : (k : Int) < (N : Int) := by omega
        have hn2 : ¬ (k : Int) < 0 := by omega
        have HC := hide (fun W (h : GrS m b0 w W G N (gtF l x k)) => h.row.seven hkl)
        obtain ⟨bb0, bb1⟩ := (HB.out) k hkl
        have hgk := (HGK.out) k
        have hgv := (HGV.out) k
        have HT1 := hide (fun W hI => (HT.out) k W hkl hI)
        have ST4 := hide (ST.out).drew
        have HI4 := hide ((HK.out) k _ _ HI.out (Below.refl _ wr).drew)
        have HPB := hide (fun W (h : GrS m b0 w W G N (gtF l x k)) y => h.putB hkl y)
        have HGS1 := hide (fun i z y => (HGS.out) k i z y)
        rw [hgk] at HC HPB
        clear HGS HGV HGK HT ST HI HB
        generalize hxk : x k = y at *
        generalize hz : l.getD k noSz = z at *
        obtain ⟨a1, a2, a3, q, a5, a6, a7⟩ := z
        simp only at bb0 bb1 HC HPB
        unfold addB raiseV at hgv
        simp only at hgv
        have HGV1 := hide hgv
        have hwr : IntKind.i64.wrap (a6 + y) = a6 + y := IntWalk.i64_in _ ⟨by omega, by omega⟩
        clear hgv hgk hxk hz
        generalize hgt : gtF l x k = gk at *
        go_upto_region 5 with fail
        obtain ⟨f0, -, -, -, -, -, d5, -⟩ := (HC.out) _ ST4.out
        go_region_with (refine Calls.mono ((HT1.out) _ HI4.out) ?_; rintro e w5 ⟨rfl, hI5, hb5, hk5⟩; have ST5 := hide ((ST4.out).call hb5 hk5); have HI5 := hide hI5; clear hb5 hk5 hI5; obtain ⟨f1, -, -, -, -, -, e5, -⟩ := (HC.out) _ ST5.out)
        all_goals (
          have ST6 := hide ((HPB.out) _ ST5.out (a6 + y))
          have HI6 := hide ((HK.out) _ _ _ HI5.out ((Below.refl b0 w5).setCell (p := ⟨G, k * 7 + 5, none⟩) (by show b0 ≤ G; exact (ST5.out).hG) (.int .i64 (a6 + y))))
          generalize World.setCell w5 _ _ = w6 at *
          clear ST5 HI5 ST4 HI4 HC HT1 HPB f0 f1 d5 e5
          obtain ⟨f2, z0, z1, z2, z3, z4, z5, z6⟩ := (ST6.out).row.seven hkl
          simp only [↓reduceIte] at z0 z1 z2 z3 z4 z5 z6
          go_wp2_with fail
          refine Calls.mono ((CRA.out) a1 a2 a3 q a5 (a6 + y) a7 _) ?_
          rintro e w7 ⟨rfl, hb7⟩
          have ST7 := hide ((ST6.out).next hb7)
          have HI7 := hide ((HK.out) _ _ _ HI6.out (hb7.mono (by have := (ST6.out).row.lt; have := (ST6.out).hG; omega)))
          clear ST6 HI6 hb7 f2 z0 z1 z2 z3 z4 z5 z6
          obtain ⟨f2, z0, z1, z2, z3, z4, z5, z6⟩ := (ST7.out).row.seven hkl
          simp only [↓reduceIte] at z0 z1 z2 z3 z4 z5 z6
          go_wp2_with fail
          have ST8 := hide (((ST7.out).put hkl a1 a2 a3 a5 (a6 + y) (max a7 (a6 + y)) q).ext (fun i _ => (HGS1.out) i _ _ HGV1.out))
          have HI8 := hide ((HK.out) _ _ _ HI7.out (below_put7 (ST7.out).hG k (.int .i64 a1) (.int .i64 a2) (.int .i64 a3) (.bool q) (.int .i64 a5) (.int .i64 (a6 + y)) (.int .i64 (max a7 (a6 + y)))))
          go_roundw
          case rel => exact ⟨k + 1, by omega, by go_num, HI8, ST8⟩
          case measure => simp [intOf]; omega)
      · have hi : ¬ (k : Int) < (N : Int) := by omega
        have ek : k = N := by omega
        subst ek
        have hv : Hid (SzL wr (.slice (some ⟨G, 0, none⟩) k uc) R) := hide (by rw [HR.out, ← (HGN.out) k]; exact cpR_SzL (ST.out).row)
        clear HR HGV HGS HGK HGN HT HK HB
        go_wp2_with fail
        go_ret
        exact ⟨_, rfl, hv.out, (ST.out).bel⟩

set_option maxRecDepth 100000 in
set_option maxHeartbeats 8000000 in
theorem greaterFu_any (B m : Nat) (v : Value) (l : List SzD) (x : Nat → Int) (INV : Nat → World → Prop) (w : World) (h : SzL w v l) (hN : l.length ≤ 1000000) (hm : m ≤ w.heap.size) (h0 : INV 0 w)
    (hb : ∀ k, k < l.length → -9223372036854775808 ≤ (l.getD k noSz).base + x k ∧ (l.getD k noSz).base + x k ≤ 9223372036854775807)
    (hg : Gets m w.heap.size l.length INV x (fun k W Q => Calls Try.prog 28 #[.int .i64 (k : Int), .pointer (some ⟨B, 0, none⟩)] W Q)) :
    Calls Try.prog 25 #[v, .func (.func 28) #[] #[.pointer (some ⟨B, 0, none⟩)]] w fun e w' => ∃ u, e = .returned u ∧ SzL w' u (gtL l x) ∧ Below m w w' := by
  have CC := hide (clone_sz v l w h hN)
  have HB := hide hb
  have HK := hide hg.keep
  have HT := hide hg.tell
  have HR : Hid (gtL l x = (List.range l.length).map (gtV l x)) := hide rfl
  have I0 := hide h0
  obtain ⟨b0, hb0⟩ : ∃ b0, b0 = w.heap.size := ⟨_, rfl⟩
  obtain ⟨N, hN0⟩ : ∃ N, N = l.length := ⟨_, rfl⟩
  have HNL := hide hN0
  have CRA := hide (fun a b c q e f g W => raise22_any ⟨a, b, c, q, e, f, g⟩ W)
  have HGV : Hid (∀ k, gtV l x k = raiseV (addB (l.getD k noSz) (x k))) := hide (fun k => rfl)
  have HG0 : Hid (∀ i, l.getD i noSz = gtF l x 0 i) := hide (fun i => rfl)
  have HGS : Hid (∀ k i (z y : SzD), gtV l x k = z → (if i = k then z else if i = k then y else gtF l x k i) = gtF l x (k + 1) i) := hide (fun k i z y hz => by
    unfold gtF
    by_cases hi : i = k
    · subst hi
      rw [if_pos rfl, if_pos (Nat.lt_succ_self _), hz]
    · rw [if_neg hi, if_neg hi]
      by_cases h2 : i < k
      · rw [if_pos h2, if_pos (by omega)]
      · rw [if_neg h2, if_neg (by omega)])
  have HGK : Hid (∀ k, gtF l x k k = l.getD k noSz) := hide (fun k => by unfold gtF; rw [if_neg (Nat.lt_irrefl _)])
  have HGN : Hid (∀ N, (List.range N).map (gtF l x N) = (List.range N).map (gtV l x)) := hide (fun N => List.map_congr_left (fun a ha => by unfold gtF; rw [if_pos (List.mem_range.1 ha)]))
  unfold szC raiseV at CRA
  simp only at CRA
  generalize gtL l x = R at *
  rw [← hN0] at CC HB HT HR hN
  rw [← hb0] at hm HK HT
  have HBW := hide hb0
  have HCI := hide (fun (u : Value) (ua : Option Addr) (uc : Nat) (e : u = .slice ua l.length uc) => e)
  clear h hb hg h0 HCI hN0 hb0
  go_enter Try.func25, Try.ntmps25
  go_wp2_with fail
  refine Calls.mono CC.out ?_
  rintro e w1 ⟨u, rfl, hown, hbel⟩
  obtain ⟨ua, uc, rfl⟩ := own_sl22 hown
  have I1 := hide ((HK.out) 0 _ _ I0.out (by rw [HBW.out]; exact hbel))
  have HBL := hide hbel
  have HOW := hide hown
  clear hbel hown I0 CC
  by_cases hN1 : N = 0
  · subst hN1
    have hv : Hid (SzL w1 (.slice ua 0 uc) R) := hide (by rw [HR.out]; exact .inl ⟨rfl, _, _, rfl⟩)
    clear HR HGV HG0 HGS HGK HGN HOW HT HK HB
    go_wp2_with fail
    go_loopw [11] (fun i wr => i = .int .i64 0 ∧ wr = w1) (fun i _ => 0)
    case atStart => exact ⟨rfl, rfl⟩
    case round =>
      obtain ⟨rfl, rfl⟩ := hrel
      go_wp2_with fail
      go_ret
      exact ⟨_, rfl, hv.out, (HBL.out).mono (by have := HBW.out; omega)⟩
  · obtain ⟨G, hua, hG⟩ : ∃ G, ua = some ⟨G, 0, none⟩ ∧ w.heap.size ≤ G := by
      rcases (HOW.out).2 with ⟨hv, hn⟩ | ⟨g, cap', cur, hv, hb, _⟩
      · exact absurd hn hN1
      · obtain ⟨rfl, -⟩ : ua = some ⟨g, 0, none⟩ ∧ uc = cap' := by simpa using hv
        exact ⟨g, rfl, hb⟩
    subst hua
    have ST0 : Hid (GrS m b0 w w1 G N (gtF l x 0)) := hide ⟨(CpR.own (HOW.out) (HNL.out).symm).ext (fun i _ => (HG0.out) i), (HBL.out).mono (by have := HBW.out; omega), hm, by have := HBW.out; omega, HBW.out⟩
    clear HOW HBL HG0 hN1 hG
    go_wp2_with fail
    go_loopw [11] (fun i wr => ∃ k : Nat, k ≤ N ∧ i = .int .i64 (k : Int) ∧ Hid (INV k wr) ∧ Hid (GrS m b0 w wr G N (gtF l x k))) (fun i _ => (N - intOf i).toNat)
    case atStart => exact ⟨0, Nat.zero_le _, by go_num, I1, ST0⟩
    case round =>
      clear ST0 I1
      obtain ⟨k, hk, rfl, HI, ST⟩ := hrel
      by_cases hkl : k < N
      · have hi : (k : Int) < (N : Int) := by omega
        have hn2 : ¬ (k : Int) < 0 := by omega
        have HC := hide (fun W (h : GrS m b0 w W G N (gtF l x k)) => h.row.seven hkl)
        obtain ⟨bb0, bb1⟩ := (HB.out) k hkl
        have hgk := (HGK.out) k
        have hgv := (HGV.out) k
        have HT1 := hide (fun W hI => (HT.out) k W hkl hI)
        have ST4 := hide (ST.out).drew
        have HI4 := hide ((HK.out) k _ _ HI.out (Below.refl _ wr).drew)
        have HPB := hide (fun W (h : GrS m b0 w W G N (gtF l x k)) y => h.putB hkl y)
        have HGS1 := hide (fun i z y => (HGS.out) k i z y)
        rw [hgk] at HC HPB
        clear HGS HGV HGK HT ST HI HB
        generalize hxk : x k = y at *
        generalize hz : l.getD k noSz = z at *
        obtain ⟨a1, a2, a3, q, a5, a6, a7⟩ := z
        simp only at bb0 bb1 HC HPB
        unfold addB raiseV at hgv
        simp only at hgv
        have HGV1 := hide hgv
        have hwr : IntKind.i64.wrap (a6 + y) = a6 + y := IntWalk.i64_in _ ⟨by omega, by omega⟩
        clear hgv hgk hxk hz
        generalize hgt : gtF l x k = gk at *
        go_upto_region 5 with fail
        obtain ⟨f0, -, -, -, -, -, d5, -⟩ := (HC.out) _ ST4.out
        go_region_with (refine Calls.mono ((HT1.out) _ HI4.out) ?_; rintro e w5 ⟨rfl, hI5, hb5, hk5⟩; have ST5 := hide ((ST4.out).call hb5 hk5); have HI5 := hide hI5; clear hb5 hk5 hI5; obtain ⟨f1, -, -, -, -, -, e5, -⟩ := (HC.out) _ ST5.out)
        all_goals (
          have ST6 := hide ((HPB.out) _ ST5.out (a6 + y))
          have HI6 := hide ((HK.out) _ _ _ HI5.out ((Below.refl b0 w5).setCell (p := ⟨G, k * 7 + 5, none⟩) (by show b0 ≤ G; exact (ST5.out).hG) (.int .i64 (a6 + y))))
          generalize World.setCell w5 _ _ = w6 at *
          clear ST5 HI5 ST4 HI4 HC HT1 HPB f0 f1 d5 e5
          obtain ⟨f2, z0, z1, z2, z3, z4, z5, z6⟩ := (ST6.out).row.seven hkl
          simp only [↓reduceIte] at z0 z1 z2 z3 z4 z5 z6
          go_wp2_with fail
          refine Calls.mono ((CRA.out) a1 a2 a3 q a5 (a6 + y) a7 _) ?_
          rintro e w7 ⟨rfl, hb7⟩
          have ST7 := hide ((ST6.out).next hb7)
          have HI7 := hide ((HK.out) _ _ _ HI6.out (hb7.mono (by have := (ST6.out).row.lt; have := (ST6.out).hG; omega)))
          clear ST6 HI6 hb7 f2 z0 z1 z2 z3 z4 z5 z6
          obtain ⟨f2, z0, z1, z2, z3, z4, z5, z6⟩ := (ST7.out).row.seven hkl
          simp only [↓reduceIte] at z0 z1 z2 z3 z4 z5 z6
          go_wp2_with fail
          have ST8 := hide (((ST7.out).put hkl a1 a2 a3 a5 (a6 + y) (max a7 (a6 + y)) q).ext (fun i _ => (HGS1.out) i _ _ HGV1.out))
          have HI8 := hide ((HK.out) _ _ _ HI7.out (below_put7 (ST7.out).hG k (.int .i64 a1) (.int .i64 a2) (.int .i64 a3) (.bool q) (.int .i64 a5) (.int .i64 (a6 + y)) (.int .i64 (max a7 (a6 + y)))))
          go_roundw
          case rel => exact ⟨k + 1, by omega, by go_num, HI8, ST8⟩
          case measure => simp [intOf]; omega)
      · have hi : ¬ (k : Int) < (N : Int) := by omega
        have ek : k = N := by omega
        subst ek
        have hv : Hid (SzL wr (.slice (some ⟨G, 0, none⟩) k uc) R) := hide (by rw [HR.out, ← (HGN.out) k]; exact cpR_SzL (ST.out).row)
        clear HR HGV HGS HGK HGN HT HK HB
        go_wp2_with fail
        go_ret
        exact ⟨_, rfl, hv.out, (ST.out).bel⟩

set_option maxRecDepth 100000 in
set_option maxHeartbeats 8000000 in
theorem greaterSt_any (B B1 m : Nat) (v : Value) (l : List SzD) (x : Nat → Int) (INV : Nat → World → Prop) (w : World) (h : SzL w v l) (hN : l.length ≤ 1000000) (hm : m ≤ w.heap.size) (h0 : INV 0 w)
    (hb : ∀ k, k < l.length → -9223372036854775808 ≤ (l.getD k noSz).base + x k ∧ (l.getD k noSz).base + x k ≤ 9223372036854775807)
    (hg : Gets m w.heap.size l.length INV x (fun k W Q => Calls Try.prog 31 #[.int .i64 (k : Int), .pointer (some ⟨B, 0, none⟩), .pointer (some ⟨B1, 0, none⟩)] W Q)) :
    Calls Try.prog 25 #[v, .func (.func 31) #[] #[.pointer (some ⟨B, 0, none⟩), .pointer (some ⟨B1, 0, none⟩)]] w fun e w' => ∃ u, e = .returned u ∧ SzL w' u (gtL l x) ∧ Below m w w' := by
  have CC := hide (clone_sz v l w h hN)
  have HB := hide hb
  have HK := hide hg.keep
  have HT := hide hg.tell
  have HR : Hid (gtL l x = (List.range l.length).map (gtV l x)) := hide rfl
  have I0 := hide h0
  obtain ⟨b0, hb0⟩ : ∃ b0, b0 = w.heap.size := ⟨_, rfl⟩
  obtain ⟨N, hN0⟩ : ∃ N, N = l.length := ⟨_, rfl⟩
  have HNL := hide hN0
  have CRA := hide (fun a b c q e f g W => raise22_any ⟨a, b, c, q, e, f, g⟩ W)
  have HGV : Hid (∀ k, gtV l x k = raiseV (addB (l.getD k noSz) (x k))) := hide (fun k => rfl)
  have HG0 : Hid (∀ i, l.getD i noSz = gtF l x 0 i) := hide (fun i => rfl)
  have HGS : Hid (∀ k i (z y : SzD), gtV l x k = z → (if i = k then z else if i = k then y else gtF l x k i) = gtF l x (k + 1) i) := hide (fun k i z y hz => by
    unfold gtF
    by_cases hi : i = k
    · subst hi
      rw [if_pos rfl, if_pos (Nat.lt_succ_self _), hz]
    · rw [if_neg hi, if_neg hi]
      by_cases h2 : i < k
      · rw [if_pos h2, if_pos (by omega)]
      · rw [if_neg h2, if_neg (by omega)])
  have HGK : Hid (∀ k, gtF l x k k = l.getD k noSz) := hide (fun k => by unfold gtF; rw [if_neg (Nat.lt_irrefl _)])
  have HGN : Hid (∀ N, (List.range N).map (gtF l x N) = (List.range N).map (gtV l x)) := hide (fun N => List.map_congr_left (fun a ha => by unfold gtF; rw [if_pos (List.mem_range.1 ha)]))
  unfold szC raiseV at CRA
  simp only at CRA
  generalize gtL l x = R at *
  rw [← hN0] at CC HB HT HR hN
  rw [← hb0] at hm HK HT
  have HBW := hide hb0
  have HCI := hide (fun (u : Value) (ua : Option Addr) (uc : Nat) (e : u = .slice ua l.length uc) => e)
  clear h hb hg h0 HCI hN0 hb0
  go_enter Try.func25, Try.ntmps25
  go_wp2_with fail
  refine Calls.mono CC.out ?_
  rintro e w1 ⟨u, rfl, hown, hbel⟩
  obtain ⟨ua, uc, rfl⟩ := own_sl22 hown
  have I1 := hide ((HK.out) 0 _ _ I0.out (by rw [HBW.out]; exact hbel))
  have HBL := hide hbel
  have HOW := hide hown
  clear hbel hown I0 CC
  by_cases hN1 : N = 0
  · subst hN1
    have hv : Hid (SzL w1 (.slice ua 0 uc) R) := hide (by rw [HR.out]; exact .inl ⟨rfl, _, _, rfl⟩)
    clear HR HGV HG0 HGS HGK HGN HOW HT HK HB
    go_wp2_with fail
    go_loopw [11] (fun i wr => i = .int .i64 0 ∧ wr = w1) (fun i _ => 0)
    case atStart => exact ⟨rfl, rfl⟩
    case round =>
      obtain ⟨rfl, rfl⟩ := hrel
      go_wp2_with fail
      go_ret
      exact ⟨_, rfl, hv.out, (HBL.out).mono (by have := HBW.out; omega)⟩
  · obtain ⟨G, hua, hG⟩ : ∃ G, ua = some ⟨G, 0, none⟩ ∧ w.heap.size ≤ G := by
      rcases (HOW.out).2 with ⟨hv, hn⟩ | ⟨g, cap', cur, hv, hb, _⟩
      · exact absurd hn hN1
      · obtain ⟨rfl, -⟩ : ua = some ⟨g, 0, none⟩ ∧ uc = cap' := by simpa using hv
        exact ⟨g, rfl, hb⟩
    subst hua
    have ST0 : Hid (GrS m b0 w w1 G N (gtF l x 0)) := hide ⟨(CpR.own (HOW.out) (HNL.out).symm).ext (fun i _ => (HG0.out) i), (HBL.out).mono (by have := HBW.out; omega), hm, by have := HBW.out; omega, HBW.out⟩
    clear HOW HBL HG0 hN1 hG
    go_wp2_with fail
    go_loopw [11] (fun i wr => ∃ k : Nat, k ≤ N ∧ i = .int .i64 (k : Int) ∧ Hid (INV k wr) ∧ Hid (GrS m b0 w wr G N (gtF l x k))) (fun i _ => (N - intOf i).toNat)
    case atStart => exact ⟨0, Nat.zero_le _, by go_num, I1, ST0⟩
    case round =>
      clear ST0 I1
      obtain ⟨k, hk, rfl, HI, ST⟩ := hrel
      by_cases hkl : k < N
      · have hi : (k : Int) < (N : Int) := by omega
        have hn2 : ¬ (k : Int) < 0 := by omega
        have HC := hide (fun W (h : GrS m b0 w W G N (gtF l x k)) => h.row.seven hkl)
        obtain ⟨bb0, bb1⟩ := (HB.out) k hkl
        have hgk := (HGK.out) k
        have hgv := (HGV.out) k
        have HT1 := hide (fun W hI => (HT.out) k W hkl hI)
        have ST4 := hide (ST.out).drew
        have HI4 := hide ((HK.out) k _ _ HI.out (Below.refl _ wr).drew)
        have HPB := hide (fun W (h : GrS m b0 w W G N (gtF l x k)) y => h.putB hkl y)
        have HGS1 := hide (fun i z y => (HGS.out) k i z y)
        rw [hgk] at HC HPB
        clear HGS HGV HGK HT ST HI HB
        generalize hxk : x k = y at *
        generalize hz : l.getD k noSz = z at *
        obtain ⟨a1, a2, a3, q, a5, a6, a7⟩ := z
        simp only at bb0 bb1 HC HPB
        unfold addB raiseV at hgv
        simp only at hgv
        have HGV1 := hide hgv
        have hwr : IntKind.i64.wrap (a6 + y) = a6 + y := IntWalk.i64_in _ ⟨by omega, by omega⟩
        clear hgv hgk hxk hz
        generalize hgt : gtF l x k = gk at *
        go_upto_region 5 with fail
        obtain ⟨f0, -, -, -, -, -, d5, -⟩ := (HC.out) _ ST4.out
        go_region_with (refine Calls.mono ((HT1.out) _ HI4.out) ?_; rintro e w5 ⟨rfl, hI5, hb5, hk5⟩; have ST5 := hide ((ST4.out).call hb5 hk5); have HI5 := hide hI5; clear hb5 hk5 hI5; obtain ⟨f1, -, -, -, -, -, e5, -⟩ := (HC.out) _ ST5.out)
        all_goals (
          have ST6 := hide ((HPB.out) _ ST5.out (a6 + y))
          have HI6 := hide ((HK.out) _ _ _ HI5.out ((Below.refl b0 w5).setCell (p := ⟨G, k * 7 + 5, none⟩) (by show b0 ≤ G; exact (ST5.out).hG) (.int .i64 (a6 + y))))
          generalize World.setCell w5 _ _ = w6 at *
          clear ST5 HI5 ST4 HI4 HC HT1 HPB f0 f1 d5 e5
          obtain ⟨f2, z0, z1, z2, z3, z4, z5, z6⟩ := (ST6.out).row.seven hkl
          simp only [↓reduceIte] at z0 z1 z2 z3 z4 z5 z6
          go_wp2_with fail
          refine Calls.mono ((CRA.out) a1 a2 a3 q a5 (a6 + y) a7 _) ?_
          rintro e w7 ⟨rfl, hb7⟩
          have ST7 := hide ((ST6.out).next hb7)
          have HI7 := hide ((HK.out) _ _ _ HI6.out (hb7.mono (by have := (ST6.out).row.lt; have := (ST6.out).hG; omega)))
          clear ST6 HI6 hb7 f2 z0 z1 z2 z3 z4 z5 z6
          obtain ⟨f2, z0, z1, z2, z3, z4, z5, z6⟩ := (ST7.out).row.seven hkl
          simp only [↓reduceIte] at z0 z1 z2 z3 z4 z5 z6
          go_wp2_with fail
          have ST8 := hide (((ST7.out).put hkl a1 a2 a3 a5 (a6 + y) (max a7 (a6 + y)) q).ext (fun i _ => (HGS1.out) i _ _ HGV1.out))
          have HI8 := hide ((HK.out) _ _ _ HI7.out (below_put7 (ST7.out).hG k (.int .i64 a1) (.int .i64 a2) (.int .i64 a3) (.bool q) (.int .i64 a5) (.int .i64 (a6 + y)) (.int .i64 (max a7 (a6 + y)))))
          go_roundw
          case rel => exact ⟨k + 1, by omega, by go_num, HI8, ST8⟩
          case measure => simp [intOf]; omega)
      · have hi : ¬ (k : Int) < (N : Int) := by omega
        have ek : k = N := by omega
        subst ek
        have hv : Hid (SzL wr (.slice (some ⟨G, 0, none⟩) k uc) R) := hide (by rw [HR.out, ← (HGN.out) k]; exact cpR_SzL (ST.out).row)
        clear HR HGV HGS HGK HGN HT HK HB
        go_wp2_with fail
        go_ret
        exact ⟨_, rfl, hv.out, (ST.out).bel⟩

end Go.Proofs.Ytaogioogpodmkaa

namespace Go.Proofs.Ytaogioogpodmkaa
open Go.RowKit

theorem gtL_grw {l : List SzD} {x : Nat → Int} (h : ∀ k, k < l.length → (l.getD k noSz).base + x k ≤ (l.getD k noSz).limit) : gtL l x = grwL l x l.length := by
  have key : ∀ n, n ≤ l.length → (List.range n).map (gtV l x) = grwL l x n := by
    intro n
    induction n with
    | zero => intro _; rfl
    | succ n ih =>
      intro hn
      rw [List.range_succ, List.map_append, ih (by omega)]
      simp only [grwL, List.map_cons, List.map_nil]
      have h1 := h n (by omega)
      have : gtV l x n = addB (l.getD n noSz) (x n) := by
        unfold gtV raiseV addB
        simp only
        rw [Int.max_eq_left h1]
      rw [this]
  exact key _ (Nat.le_refl _)

/-- A box that holds a row that was made here. -/
structure BxR (W : World) (B G N : Nat) (g : Nat → Int) : Prop where
  bx : W.heap[B]? = some (.cells #[.slice (some ⟨G, 0, none⟩) N N] 23 (0, 0))
  mr : MkI W G N g

theorem BxR.below {W W' : World} {B G N b0 : Nat} {g : Nat → Int} (h : BxR W B G N g) (hB : B < b0) (hG : G < b0) (hb : Below b0 W W') : BxR W' B G N g := ⟨(hb.block _ hB).trans h.bx, h.mr.of_block (hb.block _ hG)⟩

theorem BxR.cells {W : World} {B G N : Nat} {g : Nat → Int} (h : BxR W B G N g) : W.cell? ⟨B, 0, none⟩ = some (.slice (some ⟨G, 0, none⟩) N N) := by rw [Lib.cell_of_heap h.bx]; rfl

set_option maxRecDepth 100000 in
set_option maxHeartbeats 1000000 in
theorem grow1_any (k N B G : Nat) (g : Nat → Int) (W : World) (h : BxR W B G N g) (hk : k < N) : Calls Try.prog 26 #[.int .i64 (k : Int), .pointer (some ⟨B, 0, none⟩)] W fun e w' => e = .returned (.int .i64 (g k)) ∧ w' = W := by
  have c0 := h.cells
  have c1 := h.mr.cell hk
  have hi : (k : Int) < (N : Int) := by omega
  have hn2 : ¬ (k : Int) < 0 := by omega
  generalize g k = y at *
  clear h
  go_enter Try.func26, Try.ntmps26
  go_wp2_with fail
  go_ret
  exact ⟨rfl, rfl⟩

theorem gets_grow {m b0 N B G : Nat} {g : Nat → Int} (hB : B < b0) (hG : G < b0) : Gets m b0 N (fun _ W => BxR W B G N g) g (fun k W Q => Calls Try.prog 26 #[.int .i64 (k : Int), .pointer (some ⟨B, 0, none⟩)] W Q) :=
  ⟨fun _ _ _ h hb => h.below hB hG hb, fun k W hk h => (grow1_any k N B G g W h hk).mono fun e w' hx => ⟨hx.1, by rw [hx.2]; exact h, by rw [hx.2]; exact Below.refl _ _, by rw [hx.2]; exact ⟨Nat.le_refl _, fun _ _ _ => rfl⟩⟩⟩

/-- What stands while room is laid out. -/
structure RmS (w W : World) (v : Value) (l : List SzD) (G N k : Nat) : Prop where
  mr : MkI W G N (fun i => if i < k then rmF l i else 0)
  l : SzL w v l
  bel : Below w.heap.size w W
  hG : w.heap.size ≤ G

theorem RmS.alloc {w W : World} {v : Value} {l : List SzD} {G N k : Nat} (h : RmS w W v l G N k) (o : Obj) : RmS w (W.alloc o) v l G N k := ⟨h.mr.of_block (((Below.refl _ W).alloc (Nat.le_refl _) o).block _ h.mr.lt), h.l, h.bel.alloc h.bel.size o, h.hG⟩

theorem RmS.put {w W : World} {v : Value} {l : List SzD} {G N k : Nat} (h : RmS w W v l G N k) (y : Int) (e : rmF l k = y) : RmS w (W.setCell ⟨G, k, none⟩ (.int .i64 y)) v l G N (k + 1) :=
  ⟨(h.mr.put k y).ext (fun i _ => by
    unfold upd
    by_cases hi : i = k
    · rw [if_pos hi, if_pos (by omega), hi, e]
    · rw [if_neg hi]
      show (if i < k then rmF l i else 0) = _
      by_cases h2 : i < k
      · rw [if_pos h2, if_pos (by omega)]
      · rw [if_neg h2, if_neg (by omega)]), h.l, h.bel.setCell (p := ⟨G, k, none⟩) h.hG _, h.hG⟩

set_option maxRecDepth 100000 in
set_option maxHeartbeats 8000000 in
theorem grow25_any (v : Value) (l : List SzD) (free : Int) (w : World) (h : SzL w v l) (hN : l.length ≤ 1000000) : Calls Try.prog 10 #[v, .int .i64 free] w fun e w' => ∃ u out, e = .returned u ∧ SzL w' u out ∧ Below w.heap.size w w' ∧ GrQ l free out := by
  have CG := hide (areGood25_any v l w h hN)
  have CW := hide (fun W => isSize25_any free W)
  have CL := hide (fun W (hb : Below w.heap.size w W) => clone_sz v l W (h.below hb) hN)
  have HS := hide h
  obtain ⟨ao, cap, rfl⟩ := h.slice
  have HQ0 : Hid (∀ out, GrQ l free out ↔ ((l.all goodS = true ∧ isSz free = true) ∧ ∃ x, UpQ free l.length (rmF l) x ∧ out = grwL l x l.length) ∨ (¬ (l.all goodS = true ∧ isSz free = true) ∧ out = l)) := hide (fun out => Iff.rfl)
  have HGD := hide (fun (h : l.all goodS = true) k (hk : k < l.length) => good_base (all_good h k hk))
  have CU := hide (fun au cu W (ha : ArI W au l.length (rmF l)) => Up23_any free au l.length cu (rmF l) W ha hN)
  generalize hGG : l.all goodS = G at *
  generalize hZZ : isSz free = Z at *
  have HZB : Hid (Z = true → 0 ≤ free ∧ free ≤ 68719476736) := hide (fun h => isSz_bd (by rw [hZZ]; exact h))
  have hmk := made23 l.length hN
  have HRN := hide (fun (h : l.all goodS = true) (x : Nat → Int) (hx : UpQ free l.length (rmF l) x) k (hk : k < l.length) => upQ_bd hx (fun j hj => by
    obtain ⟨g0, g1, g2, g3⟩ := good_base (all_good h j hj)
    unfold rmF
    omega) k hk)
  have CGR := hide (fun B m (x : Nat → Int) INV W h1 h2 h3 h4 h5 => greaterGr_any B m (.slice ao l.length cap) l x INV W h1 hN h2 h3 h4 h5)
  have HGG : Hid (l.all goodS = G) := hide hGG
  obtain ⟨N, hN0⟩ : ∃ N, N = l.length := ⟨_, rfl⟩
  rw [← hN0] at CG CL HGD hN HS CU hmk CGR HRN
  rw [← hN0]
  have HNL := hide hN0
  clear h hN0 hGG hZZ
  by_cases hGZ : G = true ∧ Z = true
  · obtain ⟨rfl, rfl⟩ := hGZ
    have HQ : Hid (∀ x, UpQ free N (rmF l) x → GrQ l free (grwL l x N)) := hide (fun x hx => (HQ0.out _).2 (.inl ⟨⟨by trivial, by trivial⟩, x, by rw [← HNL.out]; exact hx, by rw [← HNL.out]⟩))
    have HGB := hide (fun k hk => (HGD.out) (by trivial) k hk)
    obtain ⟨hz0, hz1⟩ := (HZB.out) rfl
    have HRN1 := hide (fun x hx k hk => (HRN.out) HGG.out x hx k hk)
    clear HQ0 HGD HZB CL HRN HGG
    go_enter Try.func10, Try.ntmps10
    go_wp2_with fail
    refine Calls.mono CG.out ?_
    rintro e w1 ⟨rfl, hb⟩
    have HB1 := hide hb
    clear hb CG
    go_wp2_with fail
    refine Calls.mono ((CW.out) _) ?_
    rintro e w2 ⟨rfl, rfl⟩
    have ST0 : Hid (RmS w (w2.alloc (.cells (madeCells #[.int .i64 0] N) 3)) (.slice ao N cap) l w2.heap.size N 0) := hide ⟨(MkI.new w2 N).ext (fun i _ => by rw [if_neg (Nat.not_lt_zero _)]), HS.out, (HB1.out).alloc (HB1.out).size _, (HB1.out).size⟩
    clear HB1 CW HS
    go_upto_region 4 with fail
    generalize w2.alloc (.cells (madeCells #[.int .i64 0] N) 3) = w3 at *
    generalize w2.heap.size = G at *
    clear hmk
    go_wp2_with fail
    go_loopw [24] (fun i wr => ∃ k : Nat, k ≤ N ∧ i = .int .i64 (k : Int) ∧ Hid (RmS w wr (.slice ao N cap) l G N k)) (fun i _ => (N - intOf i).toNat)
    case atStart => exact ⟨0, Nat.zero_le _, by go_num, ST0⟩
    case round =>
      clear ST0
      obtain ⟨k, hk, rfl, ST⟩ := hrel
      by_cases hkl : k < N
      · have hi : (k : Int) < (N : Int) := by omega
        have hn2 : ¬ (k : Int) < 0 := by omega
        have hkL : k < l.length := by rw [← HNL.out]; exact hkl
        obtain ⟨b, off, rfl, hlt, x0, x1, x2, x3, x4, x5, x6⟩ := ((ST.out).l.below (ST.out).bel).at hkL
        obtain ⟨g0, g1, g2, g3⟩ := (HGB.out) k hkl
        have HRM : Hid (rmF l k = (l.getD k noSz).limit - (l.getD k noSz).base) := hide rfl
        clear hlt HGB
        generalize l.getD k noSz = z at *
        obtain ⟨a1, a2, a3, q, a5, a6, a7⟩ := z
        simp only at x0 x1 x2 x3 x4 x5 x6 g0 g1 g2 g3 HRM
        have hwr : IntKind.i64.wrap (a7 - a6) = a7 - a6 := IntWalk.i64_in _ ⟨by omega, by omega⟩
        have ST2 := hide ((ST.out).alloc (.cells #[.int .i64 a1, .int .i64 a2, .int .i64 a3, .bool q, .int .i64 a5, .int .i64 a6, .int .i64 a7] 36))
        have s6 : SzR (wr.alloc (.cells #[.int .i64 a1, .int .i64 a2, .int .i64 a3, .bool q, .int .i64 a5, .int .i64 a6, .int .i64 a7] 36)) wr.heap.size ⟨a1, a2, a3, q, a5, a6, a7⟩ := SzR.new wr ⟨a1, a2, a3, q, a5, a6, a7⟩
        have HS6 := hide s6
        clear s6 ST
        go_upto_region 7 with fail
        generalize wr.alloc (.cells #[.int .i64 a1, .int .i64 a2, .int .i64 a3, .bool q, .int .i64 a5, .int .i64 a6, .int .i64 a7] 36) = w4 at *
        generalize wr.heap.size = X at *
        clear x0 x1 x2 x3 x4 x5 x6
        obtain ⟨y0, y1, y2, y3, y4, y5, y6⟩ := (HS6.out).cells
        have fz := (ST2.out).mr.frozen k
        have zc := (ST2.out).mr.cell hkl
        have ST3 := hide ((ST2.out).put (a7 - a6) HRM.out)
        clear ST2 HS6
        go_wp2_with fail
        go_roundw
        case rel => exact ⟨k + 1, by omega, by go_num, ST3⟩
        case measure => simp [intOf]; omega
      · have hi : ¬ (k : Int) < (N : Int) := by omega
        have ek : k = N := by omega
        subst ek
        have har : ArI wr (some ⟨G, 0, none⟩) k (rmF l) := ((ST.out).mr.arI).ext (fun i hi => by rw [if_pos hi])
        have C2 := hide ((CU.out) (some ⟨G, 0, none⟩) k wr har)
        have HBW := hide (ST.out).bel
        have HSW := hide ((ST.out).l)
        clear har CU ST
        go_wp2_with fail
        refine Calls.mono C2.out ?_
        rintro e w5 ⟨H, x, left, rfl, hH, hmr, hb5, hup⟩
        have hq := hup.q
        have HQ2 := hide ((HQ.out) x hq)
        have HXB := hide ((HRN1.out) x hq)
        have HB5 : Hid (Below w.heap.size w w5) := hide ((HBW.out).trans (hb5.mono (HBW.out).size))
        have HMR := hide hmr
        clear hq hup hH hmr hb5 HQ HRN1 C2 HBW
        have BX : Hid (BxR (w5.alloc (.cells #[.slice (some ⟨H, 0, none⟩) k k] 23)) w5.heap.size H k x) := hide ⟨heap_alloc_new w5 _, (HMR.out).of_block (((Below.refl _ w5).alloc (Nat.le_refl _) _).block _ (HMR.out).lt)⟩
        have HB6 : Hid (Below w.heap.size w (w5.alloc (.cells #[.slice (some ⟨H, 0, none⟩) k k] 23))) := hide ((HB5.out).alloc (HB5.out).size _)
        have hs6 : (w5.alloc (.cells #[.slice (some ⟨H, 0, none⟩) k k] 23)).heap.size = w5.heap.size + 1 := World.size_alloc _ _
        have hlt := (HMR.out).lt
        have CX := hide ((CGR.out) w5.heap.size w.heap.size x (fun _ W => BxR W w5.heap.size H k x) (w5.alloc (.cells #[.slice (some ⟨H, 0, none⟩) k k] 23)) ((HSW.out).below HB6.out) (HB6.out).size BX.out (fun j hj => by
          have g := (HGB.out) j hj
          have y := (HXB.out) j hj
          unfold rmF at y
          omega) (gets_grow (by omega) (by omega)))
        have HGL : Hid (gtL l x = grwL l x k) := hide (by
          have := gtL_grw (l := l) (x := x) (fun j hj => by
            rw [← HNL.out] at hj
            have y := (HXB.out) j hj
            unfold rmF at y
            omega)
          rw [this, HNL.out])
        clear HB5 HMR BX hs6 hlt HSW CGR
        go_upto_region 10 with fail
        generalize w5.alloc (.cells #[.slice (some ⟨H, 0, none⟩) k k] 23) = w6 at *
        go_wp2_with fail
        refine Calls.mono CX.out ?_
        rintro e w7 ⟨u, rfl, hu, hb7⟩
        have HU := hide hu
        have HB7 := hide hb7
        clear hu hb7
        go_wp2_with fail
        go_ret
        exact ⟨_, _, rfl, by rw [← HGL.out]; exact HU.out, (HB6.out).trans HB7.out, HQ2.out⟩
  · have HQ : Hid (GrQ l free l) := hide ((HQ0.out l).2 (.inr ⟨hGZ, rfl⟩))
    clear HQ0 HGD CU hmk HRN CGR HZB HGG
    cases G
    · go_enter Try.func10, Try.ntmps10
      go_wp2_with fail
      refine Calls.mono CG.out ?_
      rintro e w1 ⟨rfl, hb⟩
      have HB := hide hb
      have C1 := hide ((CL.out) w1 hb)
      clear hb
      go_wp2_with fail
      refine Calls.mono C1.out ?_
      rintro e w2 ⟨u, rfl, hown, hb2⟩
      have HO := hide hown
      have HB2 := hide hb2
      clear hown hb2
      go_wp2_with fail
      go_ret
      exact ⟨_, l, rfl, szL_own (by rw [← HNL.out]; exact HO.out), (HB.out).trans ((HB2.out).mono (HB.out).size), HQ.out⟩
    · cases Z
      · go_enter Try.func10, Try.ntmps10
        go_wp2_with fail
        refine Calls.mono CG.out ?_
        rintro e w1 ⟨rfl, hb⟩
        have HB := hide hb
        have C1 := hide ((CL.out) w1 hb)
        clear hb
        go_wp2_with fail
        refine Calls.mono ((CW.out) _) ?_
        rintro e w3 ⟨rfl, rfl⟩
        go_wp2_with fail
        refine Calls.mono C1.out ?_
        rintro e w2 ⟨u, rfl, hown, hb2⟩
        have HO := hide hown
        have HB2 := hide hb2
        clear hown hb2
        go_wp2_with fail
        go_ret
        exact ⟨_, l, rfl, szL_own (by rw [← HNL.out]; exact HO.out), (HB.out).trans ((HB2.out).mono (HB.out).size), HQ.out⟩
      · exact absurd ⟨rfl, rfl⟩ hGZ

end Go.Proofs.Ytaogioogpodmkaa

namespace Go.Proofs.Ytaogioogpodmkaa
open Go.RowKit

def fullX (l : List SzD) (k : Nat) : Int := if (l.getD k noSz).limit = 1125899906842624 then 0 else (l.getD k noSz).limit - (l.getD k noSz).base

theorem gtL_full {l : List SzD} (h : l.all goodS = true) : gtL l (fullX l) = l.map fullV := by
  have key : ∀ n, n ≤ l.length → (List.range n).map (gtV l (fullX l)) = (l.take n).map fullV := by
    intro n
    induction n with
    | zero => intro _; rfl
    | succ n ih =>
      intro hn
      rw [List.range_succ, List.map_append, ih (by omega), take_snoc fullV noSz l n (by omega)]
      congr 1
      simp only [List.map_cons, List.map_nil]
      have g := good_base (all_good h n (by omega))
      unfold gtV raiseV addB fullX fullV
      generalize l.getD n noSz = z at *
      obtain ⟨a1, a2, a3, q, a5, a6, a7⟩ := z
      simp only at g ⊢
      by_cases h0 : a7 = 1125899906842624
      · rw [if_pos h0, if_pos h0, Int.add_zero, Int.max_eq_left (by omega)]
      · rw [if_neg h0, if_neg h0, show a6 + (a7 - a6) = a7 by omega, Int.max_self]
  have := key l.length (Nat.le_refl _)
  rw [List.take_length] at this
  exact this

theorem fullX_bd {l : List SzD} (h : l.all goodS = true) (k : Nat) (hk : k < l.length) : 0 ≤ fullX l k ∧ fullX l k ≤ 1125899906842624 := by
  have g := good_base (all_good h k hk)
  unfold fullX
  split <;> omega

/-- A box that holds the row that came in. -/
structure BxS (w W : World) (B : Nat) (v : Value) : Prop where
  bx : W.heap[B]? = some (.cells #[v] 22 (0, 0))
  bel : Below w.heap.size w W

theorem BxS.below {w W W' : World} {B b0 : Nat} {v : Value} (h : BxS w W B v) (hB : B < b0) (hw : w.heap.size ≤ b0) (hb : Below b0 W W') : BxS w W' B v := ⟨(hb.block _ hB).trans h.bx, h.bel.trans (hb.mono hw)⟩

theorem BxS.cell {w W : World} {B : Nat} {v : Value} (h : BxS w W B v) : W.cell? ⟨B, 0, none⟩ = some v := by rw [Lib.cell_of_heap h.bx]; rfl

set_option maxRecDepth 100000 in
set_option maxHeartbeats 2000000 in
theorem full1_any (k B : Nat) (v : Value) (l : List SzD) (w W : World) (hl : SzL w v l) (hgood : l.all goodS = true) (h : BxS w W B v) (hk : k < l.length) : Calls Try.prog 28 #[.int .i64 (k : Int), .pointer (some ⟨B, 0, none⟩)] W fun e w' => e = .returned (.int .i64 (fullX l k)) ∧ (w' = W ∨ w' = W.drew) := by
  obtain ⟨ao, cap, rfl⟩ := hl.slice
  have c0 := h.cell
  obtain ⟨b, off, rfl, hlt, x0, x1, x2, x3, x4, x5, x6⟩ := (hl.below h.bel).at hk
  have hi : (k : Int) < (l.length : Int) := by omega
  have hn2 : ¬ (k : Int) < 0 := by omega
  have g := good_base (all_good hgood k hk)
  have HR : Hid (fullX l k = if (l.getD k noSz).limit = 1125899906842624 then 0 else (l.getD k noSz).limit - (l.getD k noSz).base) := hide rfl
  generalize fullX l k = R at *
  generalize l.getD k noSz = z at *
  obtain ⟨a1, a2, a3, q, a5, a6, a7⟩ := z
  simp only at x0 x1 x2 x3 x4 x5 x6 g HR
  generalize l.length = N at *
  have hwr : IntKind.i64.wrap (a7 - a6) = a7 - a6 := IntWalk.i64_in _ ⟨by omega, by omega⟩
  clear h hl hgood
  rcases eqk6 a7 1125899906842624 with ⟨h0, h0b⟩ | ⟨h0, h0b⟩
  · have HV : Hid (R = 0) := hide (by rw [HR.out, if_pos h0])
    clear HR h0
    go_enter Try.func28, Try.ntmps28
    go_wp2_with fail
    go_ret
    exact ⟨by rw [HV.out] <;> rfl, .inl rfl⟩
  · have HV : Hid (R = a7 - a6) := hide (by rw [HR.out, if_neg h0])
    clear HR h0
    go_enter Try.func28, Try.ntmps28
    go_upto_region 3 with fail
    go_region
    go_wp2_with fail
    go_ret
    exact ⟨by rw [HV.out] <;> rfl, .inr rfl⟩

theorem gets_full {m b0 B : Nat} {v : Value} {l : List SzD} {w : World} (hl : SzL w v l) (hgood : l.all goodS = true) (hB : B < b0) (hw : w.heap.size ≤ b0) : Gets m b0 l.length (fun _ W => BxS w W B v) (fullX l) (fun k W Q => Calls Try.prog 28 #[.int .i64 (k : Int), .pointer (some ⟨B, 0, none⟩)] W Q) :=
  ⟨fun _ _ _ h hb => h.below hB hw hb, fun k W hk h => (full1_any k B v l w W hl hgood h hk).mono fun e w' hx => by
    rcases hx with ⟨he, rfl | rfl⟩
    · exact ⟨he, h, Below.refl _ _, ⟨Nat.le_refl _, fun _ _ _ => rfl⟩⟩
    · exact ⟨he, h.below hB hw (Below.refl _ _).drew, (Below.refl _ _).drew, ⟨Nat.le_refl _, fun _ _ _ => rfl⟩⟩⟩

set_option maxRecDepth 100000 in
set_option maxHeartbeats 4000000 in
theorem full25_any (v : Value) (l : List SzD) (w : World) (h : SzL w v l) (hN : l.length ≤ 1000000) : Calls Try.prog 12 #[v] w fun e w' => ∃ u, e = .returned u ∧ SzL w' u (fullL l) ∧ Below w.heap.size w w' := by
  have CG := hide (fun W (hb : Below w.heap.size w W) => areGood25_any v l W (h.below hb) hN)
  have CL := hide (fun W (hb : Below w.heap.size w W) => clone_sz v l W (h.below hb) hN)
  have HR : Hid (fullL l = if l.all goodS = true then l.map fullV else l) := hide rfl
  have HS := hide h
  have HGF := hide (fun (hg : l.all goodS = true) => gtL_full hg)
  have CX := hide (fun B W (hg : l.all goodS = true) (hbx : BxS w W B v) (hB : B < W.heap.size) => greaterFu_any B w.heap.size v l (fullX l) (fun _ W => BxS w W B v) W (h.below hbx.bel) hN hbx.bel.size hbx (fun k hk => by
    have g := good_base (all_good hg k hk)
    have f := fullX_bd hg k hk
    omega) (gets_full h hg hB hbx.bel.size))
  have BX0 : Hid (BxS w (w.alloc (.cells #[v] 22)) w.heap.size v) := hide ⟨heap_alloc_new w _, (Below.refl _ w).alloc (Nat.le_refl _) _⟩
  have hsz : w.heap.size < (w.alloc (.cells #[v] 22)).heap.size := by rw [World.size_alloc]; omega
  have HZ := hide hsz
  obtain ⟨ao, cap, rfl⟩ := h.slice
  generalize fullL l = R at *
  generalize hG : l.all goodS = G at *
  clear h hsz
  cases G
  · have HV : Hid (R = l) := hide (by rw [HR.out, if_neg (by decide)])
    clear HR HGF CX
    go_enter Try.func12, Try.ntmps12
    go_upto_region 1 with fail
    generalize w.alloc (.cells #[.slice ao l.length cap] 22) = w1 at *
    have c0 := (BX0.out).cell
    have C1 := hide ((CG.out) w1 (BX0.out).bel)
    go_wp2_with fail
    refine Calls.mono C1.out ?_
    rintro e w2 ⟨rfl, hb⟩
    have BX2 := hide (BxS.mk ((hb.block _ HZ.out).trans (BX0.out).bx) ((BX0.out).bel.trans (hb.mono (BX0.out).bel.size)))
    have c1 := (BX2.out).cell
    have C2 := hide ((CL.out) w2 (BX2.out).bel)
    clear hb c0 C1
    go_wp2_with fail
    refine Calls.mono C2.out ?_
    rintro e w3 ⟨u, rfl, hown, hb⟩
    have HO := hide hown
    have HB := hide hb
    clear hown hb
    go_wp2_with fail
    go_ret
    exact ⟨_, rfl, by rw [HV.out]; exact szL_own HO.out, (BX2.out).bel.trans ((HB.out).mono (BX2.out).bel.size)⟩
  · have HV : Hid (R = gtL l (fullX l)) := hide (by rw [HR.out, if_pos rfl, (HGF.out) rfl])
    clear HR HGF CL
    go_enter Try.func12, Try.ntmps12
    go_upto_region 1 with fail
    generalize w.alloc (.cells #[.slice ao l.length cap] 22) = w1 at *
    have c0 := (BX0.out).cell
    have C1 := hide ((CG.out) w1 (BX0.out).bel)
    go_wp2_with fail
    refine Calls.mono C1.out ?_
    rintro e w2 ⟨rfl, hb⟩
    have BX2 := hide (BxS.mk ((hb.block _ HZ.out).trans (BX0.out).bx) ((BX0.out).bel.trans (hb.mono (BX0.out).bel.size)))
    have c1 := (BX2.out).cell
    have C2 := hide ((CX.out) w.heap.size w2 trivial BX2.out (Nat.lt_of_lt_of_le HZ.out hb.size))
    clear hb c0 C1
    go_wp2_with fail
    refine Calls.mono C2.out ?_
    rintro e w3 ⟨u, rfl, hu, hb⟩
    have HU := hide hu
    have HB := hide hb
    clear hu hb
    go_wp2_with fail
    go_ret
    exact ⟨_, rfl, by rw [HV.out]; exact HU.out, (BX2.out).bel.trans HB.out⟩

end Go.Proofs.Ytaogioogpodmkaa

namespace Go.Proofs.Ytaogioogpodmkaa
open Go Go.RowKit

set_option maxHeartbeats 1000000 in
theorem splitP_yes (n : Int) (P : Nat) (w : World) (h0 : 0 ≤ n) (hn : n ≤ 9223372036854775807) (hP1 : 1 ≤ P) (hP2 : P ≤ 65536) :
    Calls Try.prog 30 #[.int .i64 n, .int .i64 (P : Int)] w fun e w' => e = .returned (.slice (some ⟨w.heap.size, 0, none⟩) P P) ∧ ArI w' (some ⟨w.heap.size, 0, none⟩) P (fun j => (splitV n (P : Int)).getD j 0) ∧ Below w.heap.size w w' := by
  have hq0 : 0 ≤ n / (P : Int) := Int.ediv_nonneg h0 (by omega)
  have hq1 : n / (P : Int) ≤ 9223372036854775806 ∨ ¬ (0 : Int) < n % (P : Int) := by
    by_cases e : P = 1
    · subst e; right; simp
    · left
      have := Int.ediv_le_ediv (a := n) (b := 9223372036854775807) (c := (P : Int)) (by omega) hn
      have h3 : (9223372036854775807 : Int) / (P : Int) ≤ 9223372036854775807 / 2 := by
        apply Int.le_ediv_of_mul_le (by omega)
        have h4 := Int.ediv_mul_le (9223372036854775807 : Int) (b := (P : Int)) (by omega)
        have h5 : 0 ≤ (9223372036854775807 : Int) / (P : Int) := Int.ediv_nonneg (by omega) (by omega)
        have h6 : (9223372036854775807 : Int) / (P : Int) * 2 ≤ (9223372036854775807 : Int) / (P : Int) * (P : Int) := Int.mul_le_mul_of_nonneg_left (by omega) h5
        omega
      omega
  have hm0 : 0 ≤ n % (P : Int) := Int.emod_nonneg n (by omega)
  have hmk := run_make_row' (P := Try.prog) 23 3 (.int .i64 0) 8 Try.underlying23 info_intF rfl .i64 .i64 P (by omega) (by omega)
  go_enter Try.func30, Try.ntmps30
  go_wp2
  go_loopw [21] (fun i wr => ∃ k : Nat, k ≤ P ∧ i = .int .i64 k ∧ wr.ownsRow w.heap.size 3 1 (.slice (some ⟨w.heap.size, 0, none⟩) P P) P ((mid n (P : Int) P k).map (Value.int .i64)) ∧ Below w.heap.size w wr) (fun i _ => P - (intOf i).toNat)
  case atStart =>
    refine ⟨0, Nat.zero_le _, rfl, ?_, (Below.refl _ _).alloc (Nat.le_refl _) _⟩
    have h := World.ownsRow_lit (base := w.heap.size) (e := 3) (size := 1) w (madeCells #[.int .i64 0] P) P (Nat.le_refl _) (by unfold maxLen; omega) (by rw [size_madeCells]; omega)
    rw [toList_madeCells_one] at h
    rw [mid_zero, List.map_replicate]
    exact h
  case round =>
    obtain ⟨k, hk, rfl, hown, hB⟩ := hrel
    by_cases hlt : k < P
    · have hc : wr.cell? ⟨w.heap.size, k, none⟩ = some (.int .i64 0) := by
        rw [hown.cellAt k (by omega)]; simp [mid_at n (P : Int) P k hlt]
      have hf := hown.frozenAt k
      by_cases ht : (k : Int) < n % (P : Int)
      · have R := split_step2 (x := n / (P : Int)) hlt (Nat.le_refl _) hown hB
        have hq : n / (P : Int) ≤ 9223372036854775806 := by omega
        rw [part_hit ht] at R
        clear hown hq1
        go_wp2
        go_roundw
        case rel => exact ⟨k + 1, by omega, by go_num, R.1, R.2⟩
        case measure => simp [intOf]; omega
      · have R := split_step hlt (Nat.le_refl _) hown hB
        rw [part_miss ht] at R
        clear hown hq1
        go_wp2
        go_roundw
        case rel => exact ⟨k + 1, by omega, by go_num, R.1, R.2⟩
        case measure => simp [intOf]; omega
    · have e : k = P := by omega
      subst e
      rw [mid_all] at hown
      have R0 := readsF_owns hown
      obtain ⟨aq, cq, eq, har⟩ := R0.reads.arI
      have R : ArI wr (some ⟨w.heap.size, 0, none⟩) k (fun j => (splitV n (k : Int)).getD j 0) := by
        have e1 : splitV n (k : Int) = (List.range k).map (part n (k : Int)) := by simp [splitV]
        simp only [Value.slice.injEq] at eq
        obtain ⟨rfl, h2, -⟩ := eq
        rw [← h2] at har
        rw [e1]
        exact har
      clear eq har R0
      go_wp2
      go_ret
      exact ⟨rfl, R, hB⟩

theorem sz_int25 (w : World) : (sizeOf (Try.prog.elem 23)).run Try.prog w = .ok 1 w := by kernel_rfl

theorem elem_int25 : Try.prog.underlying 23 = some (.slice (Try.prog.elem 23)) := by kernel_rfl

theorem sl_one25 (g o n : Nat) (w : World) : Sem.run Try.prog (Instr.slice 23 (.slice (some ⟨g, o, none⟩) (n + 1) (n + 1)) (some (.int .i64 1)) none none) w = .ok (.slice (some ⟨g, if n = 0 then o else o + 1, none⟩) n n) w := by
  rw [run_slice_l (P := Try.prog) w 23 (some ⟨g, o, none⟩) (n + 1) (n + 1) elem_int25 .i64 1 (by omega) (by omega), sz_int25]
  by_cases h : n = 0
  · subst h
    simp [Result.andThen, sliced]
  · simp [Result.andThen, sliced, h]
    rw [Addr.add_lit]

set_option maxRecDepth 100000 in
set_option maxHeartbeats 1000000 in
theorem isAuto25_any (s : SzD) (w : World) : Calls Try.prog 29 #[.agg (szC s)] w fun e w' => e = .returned (.bool (s.mx == 2)) ∧ Below w.heap.size w w' := by
  have B0 : Hid (Below w.heap.size w (w.alloc (.cells (szC s) 36))) := hide ((Below.refl _ w).alloc (Nat.le_refl _) _)
  have s6 : SzR (w.alloc (.cells (szC s) 36)) w.heap.size s := SzR.new w s
  have HS6 := hide s6
  clear s6
  obtain ⟨a1, a2, a3, q, a5, a6, a7⟩ := s
  obtain ⟨y0, y1, y2, y3, y4, y5, y6⟩ := (HS6.out).cells
  unfold szC at *
  simp only at *
  go_enter Try.func29, Try.ntmps29
  go_upto_region 1 with fail
  generalize w.alloc (.cells #[.int .i64 a1, .int .i64 a2, .int .i64 a3, .bool q, .int .i64 a5, .int .i64 a6, .int .i64 a7] 36) = w1 at *
  go_wp2_with fail
  go_ret
  exact ⟨rfl, B0.out⟩

/-- What each gets when free room is parted. -/
def strX (l : List SzD) (p : List Int) (k : Nat) : Int := if isAu l k = true then p.getD (cnt (isAu l) k) 0 else 0

theorem gtL_str {l : List SzD} {p : List Int} : gtL l (strX l p) = stL l p l.length := by
  have key : ∀ n, n ≤ l.length → (List.range n).map (gtV l (strX l p)) = stL l p n := by
    intro n
    induction n with
    | zero => intro _; rfl
    | succ n ih =>
      intro hn
      rw [List.range_succ, List.map_append, ih (by omega)]
      simp only [stL, List.map_cons, List.map_nil]
      congr 2
      unfold gtV stV strX
      by_cases h0 : isAu l n = true
      · rw [if_pos h0, if_pos h0]
      · rw [if_neg h0, if_neg h0]
        unfold addB
        simp only [Int.add_zero]
  exact key _ (Nat.le_refl _)

/-- The box of the parts that are left. -/
structure PtS (w W : World) (B B1 g P : Nat) (v : Value) (k : Nat) : Prop where
  bx : W.heap[B]? = some (.cells #[v] 22 (0, 0))
  pt : ∃ vk, W.heap[B1]? = some (.cells #[vk] 23 (0, 0)) ∧ (k < P → vk = .slice (some ⟨g, k, none⟩) (P - k) (P - k))
  bel : Below B1 w W

theorem PtS.below {w W W' : World} {B B1 g P b0 k : Nat} {v : Value} (h : PtS w W B B1 g P v k) (hB : B < b0) (hB1 : B1 < b0) (hb : Below b0 W W') : PtS w W' B B1 g P v k := by
  obtain ⟨vk, h1, h2⟩ := h.pt
  exact ⟨(hb.block _ hB).trans h.bx, ⟨vk, (hb.block _ hB1).trans h1, h2⟩, h.bel.trans (hb.mono (by omega))⟩

set_option maxRecDepth 100000 in
set_option maxHeartbeats 4000000 in
theorem stretch1_any (k B B1 g P : Nat) (p : List Int) (v : Value) (l : List SzD) (w W : World) (hl : SzL w v l) (ha : ArI w (some ⟨g, 0, none⟩) P (fun j => p.getD j 0)) (hw : w.heap.size = B1) (hB : B < B1) (h : PtS w W B B1 g P v (cnt (isAu l) k)) (hk : k < l.length) (hP : P = cnt (isAu l) l.length) :
    Calls Try.prog 31 #[.int .i64 (k : Int), .pointer (some ⟨B, 0, none⟩), .pointer (some ⟨B1, 0, none⟩)] W fun e w' => e = .returned (.int .i64 (strX l p k)) ∧ PtS w w' B B1 g P v (cnt (isAu l) (k + 1)) ∧ Below B1 W w' ∧ KeepA (B1 + 1) W w' := by
  obtain ⟨ao, cap, rfl⟩ := hl.slice
  obtain ⟨vk, hv1, hv2⟩ := h.pt
  have hbel := h.bel
  have c0 : W.cell? ⟨B, 0, none⟩ = some (.slice ao l.length cap) := by rw [Lib.cell_of_heap h.bx]; rfl
  have c1 : W.cell? ⟨B1, 0, none⟩ = some vk := by rw [Lib.cell_of_heap hv1]; rfl
  have f1 : ∀ m, W.frozen? ⟨B1, m, none⟩ = false := fun m => Lib.frozen_of_heap hv1 m
  obtain ⟨b, off, rfl, hlt, x0, x1, x2, x3, x4, x5, x6⟩ := (hl.below (by rw [hw]; exact hbel)).at hk
  have hi : (k : Int) < (l.length : Int) := by omega
  have hn2 : ¬ (k : Int) < 0 := by omega
  have hau : isAu l k = ((l.getD k noSz).mx == 2) := rfl
  have hcn : cnt (isAu l) (k + 1) = cnt (isAu l) k + if isAu l k then 1 else 0 := rfl
  have hcl : isAu l k = true → cnt (isAu l) k < P := fun hh => by rw [hP]; exact cnt_lt hk hh
  have hX : strX l p k = if isAu l k = true then p.getD (cnt (isAu l) k) 0 else 0 := rfl
  have CA := hide (fun W => isAuto25_any (l.getD k noSz) W)
  have HPT := hide h
  have HAR := hide (ha.below (by rw [hw]; exact hbel))
  have HW1 := hide hv1
  rw [← hau] at CA
  generalize l.getD k noSz = z at *
  obtain ⟨a1, a2, a3, q, a5, a6, a7⟩ := z
  simp only at x0 x1 x2 x3 x4 x5 x6
  unfold szC at CA
  simp only at CA
  generalize isAu l k = au at *
  generalize hd : cnt (isAu l) k = d at *
  have HX := hide hX
  have HCN := hide hcn
  have HBL := hide hbel
  have HWS := hide hw
  have HHB := hide hB
  clear hX hcn hbel hau hl ha h hv1 hP hw hB
  generalize strX l p k = X at *
  generalize cnt (isAu l) (k + 1) = d1 at *
  cases au
  · have HV : Hid (X = 0) := hide (by rw [HX.out]; rfl)
    have HD : Hid (d1 = d) := hide (by rw [HCN.out]; rfl)
    clear HX HCN hcl hv2
    go_enter Try.func31, Try.ntmps31
    go_wp2_with fail
    refine Calls.mono ((CA.out) _) ?_
    rintro e w1 ⟨rfl, hb⟩
    have HB := hide hb
    have hB1W : B1 < W.heap.size := (Array.getElem?_eq_some_iff.1 (HW1.out)).1
    clear hb
    go_wp2_with fail
    go_ret
    exact ⟨by rw [HV.out] <;> rfl, by rw [HD.out]; exact (HPT.out).below (b0 := B1 + 1) (by have := HHB.out; omega) (by omega) ((HB.out).mono (by omega)), (HB.out).mono (by omega), (HB.out).size, fun q _ hq => (HB.out).block _ hq⟩
  · have hdP := hcl rfl
    have hvk := hv2 hdP
    obtain ⟨n, hn⟩ : ∃ n, P - d = n + 1 := ⟨P - d - 1, by omega⟩
    rw [hn] at hvk
    subst hvk
    have HV : Hid (X = p.getD d 0) := hide (by rw [HX.out]; rfl)
    have HD : Hid (d1 = d + 1) := hide (by rw [HCN.out]; rfl)
    obtain ⟨bg, og, e0, hgl, hcg⟩ := (HAR.out).at2 hdP
    obtain ⟨rfl, rfl⟩ : g = bg ∧ 0 = og := by simpa using e0
    rw [Nat.zero_add] at hcg
    have hsl := sl_one25 g d n
    obtain ⟨oo, hoo⟩ : ∃ oo, oo = (if n = 0 then d else d + 1) := ⟨_, rfl⟩
    rw [← hoo] at hsl
    have HOO := hide hoo
    clear hoo
    have hnn : ((n : Int) + 1 == 0) = false := by simp; omega
    clear HX HCN hcl hv2 e0
    generalize p.getD d 0 = y at *
    go_enter Try.func31, Try.ntmps31
    go_wp2_with fail
    refine Calls.mono ((CA.out) _) ?_
    rintro e w1 ⟨rfl, hb⟩
    have HB := hide hb
    have hB1W : B1 < W.heap.size := (Array.getElem?_eq_some_iff.1 (HW1.out)).1
    have d1' : w1.cell? ⟨B1, 0, none⟩ = some (.slice (some ⟨g, d, none⟩) (n + 1) (n + 1)) := (hb.cell (p := ⟨B1, 0, none⟩) hB1W).trans c1
    have d2' : w1.cell? ⟨g, d, none⟩ = some (.int .i64 y) := (hb.cell (p := ⟨g, d, none⟩) hgl).trans hcg
    have d3' : ∀ m, w1.frozen? ⟨B1, m, none⟩ = false := fun m => Lib.frozen_of_heap ((hb.block _ hB1W).trans HW1.out) m
    have PT1 := hide ((HPT.out).below (b0 := B1 + 1) (by have := HHB.out; omega) (by omega) (hb.mono (by omega)))
    have HW2 := hide ((hb.block _ hB1W).trans HW1.out)
    clear hb c0 c1 x0 x1 x2 x3 x4 x5 x6 hcg f1
    go_wp2_with fail
    go_ret
    refine ⟨by rw [HV.out] <;> rfl, ?_, ?_, ?_⟩
    · rw [HD.out]
      refine ⟨(Below.heap_setCell _ _ _ _ (by show B ≠ B1; have := HHB.out; omega)).trans (PT1.out).bx, ⟨_, heap_setCell_same _ B1 0 _ _ _ (HW2.out), fun hlt => ?_⟩, ((PT1.out).bel).setCell (p := ⟨B1, 0, none⟩) (Nat.le_refl _) _⟩
      rw [HOO.out, if_neg (by omega), show P - (d + 1) = n by omega]
    · exact (show Below B1 W w1 from (HB.out).mono (by omega)).setCell (p := ⟨B1, 0, none⟩) (Nat.le_refl _) _
    · exact ⟨by simp [World.setCell]; exact (HB.out).size, fun q hq hqW => (Below.heap_setCell _ _ _ _ (by show q ≠ B1; omega)).trans ((HB.out).block _ hqW)⟩

end Go.Proofs.Ytaogioogpodmkaa

namespace Go.Proofs.Ytaogioogpodmkaa
open Go.RowKit

theorem splitP_any (n : Int) (c : Nat) (w : World) (h0 : 0 ≤ n) (hn : n ≤ 9223372036854775807) (hc : c ≤ 65536) :
    Calls Try.prog 30 #[.int .i64 n, .int .i64 (c : Int)] w fun e w' => ∃ va vn vc g, e = .returned (.slice va vn vc) ∧ (0 < c → .slice va vn vc = Value.slice (some ⟨g, 0, none⟩) c c) ∧ ArI w' (some ⟨g, 0, none⟩) c (fun j => (spV n (c : Int)).getD j 0) ∧ Below w.heap.size w w' := by
  by_cases h1 : 1 ≤ c
  · refine (splitP_yes n c w h0 hn h1 hc).mono ?_
    rintro e w' ⟨rfl, har, hb⟩
    exact ⟨_, _, _, _, rfl, fun _ => rfl, by rw [show spV n (c : Int) = splitV n (c : Int) by unfold spV; rw [if_pos ⟨h0, by omega, by omega⟩]]; exact har, hb⟩
  · obtain rfl : c = 0 := by omega
    refine (splitF_any n ((0 : Nat) : Int) w hn).mono ?_
    rintro e w' ⟨v, rfl, hr, hb⟩
    rcases hr with ⟨_, a, cap, rfl⟩ | ⟨b, off, cap, rfl, _⟩
    · exact ⟨_, _, _, 0, rfl, fun h => absurd h (by omega), .inl rfl, hb⟩
    · exact ⟨_, _, _, 0, rfl, fun h => absurd h (by omega), .inl rfl, hb⟩

theorem gets_str {m b0 B B1 g P : Nat} {p : List Int} {v : Value} {l : List SzD} {w : World} (hl : SzL w v l) (ha : ArI w (some ⟨g, 0, none⟩) P (fun j => p.getD j 0)) (hw : w.heap.size = B1) (hB : B < B1) (hP : P = cnt (isAu l) l.length) (hm : m ≤ B1) (hb0 : b0 = B1 + 1) : Gets m b0 l.length (fun k W => PtS w W B B1 g P v (cnt (isAu l) k)) (strX l p) (fun k W Q => Calls Try.prog 31 #[.int .i64 (k : Int), .pointer (some ⟨B, 0, none⟩), .pointer (some ⟨B1, 0, none⟩)] W Q) :=
  ⟨fun k _ _ h hb => h.below (by omega) (by omega) hb, fun k W hk h => (stretch1_any k B B1 g P p v l w W hl ha hw hB h hk hP).mono fun e w' hx => ⟨hx.1, hx.2.1, hx.2.2.1.mono hm, by rw [hb0]; exact hx.2.2.2⟩⟩

theorem strX_bd {l : List SzD} {free c : Int} (h0 : 0 ≤ free) (k : Nat) : 0 ≤ strX l (spV free c) k ∧ strX l (spV free c) k ≤ free := by
  unfold strX
  split
  · exact spV_bd h0 c _
  · omega

theorem BxS.next {w W W' : World} {B : Nat} {v : Value} (h : BxS w W B v) (hb : Below W.heap.size W W') : BxS w W' B v := ⟨(hb.block _ (Array.getElem?_eq_some_iff.1 h.bx).1).trans h.bx, h.bel.trans (hb.mono h.bel.size)⟩

theorem BxS.start {w : World} {v : Value} : BxS w (w.alloc (.cells #[v] 22)) w.heap.size v := ⟨heap_alloc_new w _, (Below.refl _ w).alloc (Nat.le_refl _) _⟩

set_option maxRecDepth 100000 in
set_option maxHeartbeats 8000000 in
theorem stretch25_any (v : Value) (l : List SzD) (free : Int) (w : World) (h : SzL w v l) (hN : l.length ≤ 65536) : Calls Try.prog 14 #[v, .int .i64 free] w fun e w' => ∃ u, e = .returned u ∧ SzL w' u (strV l free) ∧ Below w.heap.size w w' := by
  have CG := hide (fun W (hb : Below w.heap.size w W) => areGood25_any v l W (h.below hb) (by omega))
  have CW := hide (fun W => isSize25_any free W)
  have CL := hide (fun W (hb : Below w.heap.size w W) => clone_sz v l W (h.below hb) (by omega))
  have HR : Hid (strV l free = if l.all goodS = true ∧ isSz free = true then stL l (spV free (cnt (isAu l) l.length : Int)) l.length else l) := hide rfl
  have HS := hide h
  have BX0 : Hid (BxS w (w.alloc (.cells #[v] 22)) w.heap.size v) := hide BxS.start
  have HZB : Hid (isSz free = true → 0 ≤ free ∧ free ≤ 68719476736) := hide (fun h => isSz_bd h)
  have HCL := hide (fun k => cnt_le (isAu l) k)
  have CX := hide (fun (B B1 g P : Nat) (p : List Int) w5 W (hl : SzL w5 v l) (ha : ArI w5 (some ⟨g, 0, none⟩) P (fun j => p.getD j 0)) (hw : w5.heap.size = B1) (hB : B < B1) (hP : P = cnt (isAu l) l.length) (hWs : W.heap.size = B1 + 1) (hp : PtS w5 W B B1 g P v (cnt (isAu l) 0)) (hm : w.heap.size ≤ B1) (hsz : SzL W v l) (hbd : ∀ k, k < l.length → -9223372036854775808 ≤ (l.getD k noSz).base + strX l p k ∧ (l.getD k noSz).base + strX l p k ≤ 9223372036854775807) => greaterSt_any B B1 w.heap.size v l (strX l p) (fun k W => PtS w5 W B B1 g P v (cnt (isAu l) k)) W hsz (by omega) (by omega) hp hbd (gets_str hl ha hw hB hP hm hWs))
  obtain ⟨ao, cap, rfl⟩ := h.slice
  generalize strV l free = R at *
  generalize hGG : l.all goodS = G at *
  generalize isSz free = Z at *
  have HGG := hide hGG
  obtain ⟨N, hN0⟩ : ∃ N, N = l.length := ⟨_, rfl⟩
  rw [← hN0] at CG CL CX HR BX0 hN HS
  rw [← hN0]
  have HNL := hide hN0
  clear h hGG hN0
  by_cases hGZ : G = true ∧ Z = true
  · obtain ⟨rfl, rfl⟩ := hGZ
    have HV : Hid (R = stL l (spV free (cnt (isAu l) N : Int)) N) := hide (by rw [HR.out, if_pos ⟨by trivial, by trivial⟩])
    obtain ⟨hz0, hz1⟩ := (HZB.out) rfl
    have CA := hide (fun a b c q e f g W => isAuto25_any ⟨a, b, c, q, e, f, g⟩ W)
    unfold szC at CA
    simp only at CA
    clear HR CL HZB
    go_enter Try.func14, Try.ntmps14
    go_upto_region 1 with fail
    generalize w.alloc (.cells #[.slice ao N cap] 22) = w1 at *
    have c0 := (BX0.out).cell
    have C1 := hide ((CG.out) w1 (BX0.out).bel)
    go_wp2_with fail
    refine Calls.mono C1.out ?_
    rintro e w2 ⟨rfl, hb⟩
    have BX2 := hide ((BX0.out).next hb)
    have c1 := (BX2.out).cell
    clear hb c0 C1 BX0 CG
    go_wp2_with fail
    refine Calls.mono ((CW.out) _) ?_
    rintro e w3 ⟨rfl, rfl⟩
    go_wp2_with fail
    go_loopw [5, 21] (fun c i wr => ∃ k d : Nat, k ≤ N ∧ d ≤ k ∧ i = .int .i64 (k : Int) ∧ c = .int .i64 (d : Int) ∧ Hid (d = cnt (isAu l) k) ∧ Hid (BxS w wr w.heap.size (.slice ao N cap))) (fun _ i _ => (N - intOf i).toNat)
    case atStart => exact ⟨0, 0, Nat.zero_le _, Nat.le_refl _, by go_num, by go_num, hide rfl, BX2⟩
    case round =>
      clear BX2 c1
      obtain ⟨k, d, hk, hdk, rfl, rfl, HD, BX⟩ := hrel
      by_cases hkl : k < N
      · have hi : (k : Int) < (N : Int) := by omega
        have hn2 : ¬ (k : Int) < 0 := by omega
        have hkL : k < l.length := by rw [← HNL.out]; exact hkl
        obtain ⟨b, off, rfl, hlt, x0, x1, x2, x3, x4, x5, x6⟩ := ((HS.out).below (BX.out).bel).at hkL
        have HAU : Hid (isAu l k = ((l.getD k noSz).mx == 2)) := hide rfl
        have HCC : Hid (cnt (isAu l) (k + 1) = d + if isAu l k then 1 else 0) := hide (by rw [HD.out]; rfl)
        clear hlt HD HV CX
        generalize l.getD k noSz = z at *
        obtain ⟨a1, a2, a3, q, a5, a6, a7⟩ := z
        simp only at x0 x1 x2 x3 x4 x5 x6 HAU
        have C1 := hide (fun W => (CA.out) a1 a2 a3 q a5 a6 a7 W)
        have hau := HAU.out
        rw [← hau] at C1
        have BX2 := hide ((BX.out).next ((Below.refl _ wr).alloc (Nat.le_refl _) (.cells #[.int .i64 a1, .int .i64 a2, .int .i64 a3, .bool q, .int .i64 a5, .int .i64 a6, .int .i64 a7] 36)))
        have s6 : SzR (wr.alloc (.cells #[.int .i64 a1, .int .i64 a2, .int .i64 a3, .bool q, .int .i64 a5, .int .i64 a6, .int .i64 a7] 36)) wr.heap.size ⟨a1, a2, a3, q, a5, a6, a7⟩ := SzR.new wr ⟨a1, a2, a3, q, a5, a6, a7⟩
        have HS6 := hide s6
        clear s6 BX CA hau HAU
        generalize isAu l k = au at *
        go_upto_region 7 with fail
        generalize wr.alloc (.cells #[.int .i64 a1, .int .i64 a2, .int .i64 a3, .bool q, .int .i64 a5, .int .i64 a6, .int .i64 a7] 36) = w4 at *
        generalize wr.heap.size = X at *
        clear x0 x1 x2 x3 x4 x5 x6
        obtain ⟨y0, y1, y2, y3, y4, y5, y6⟩ := (HS6.out).cells
        cases au
        · have HD2 : Hid (d = cnt (isAu l) (k + 1)) := hide (by rw [HCC.out]; rfl)
          go_wp2_with fail
          refine Calls.mono ((C1.out) _) ?_
          rintro e w5 ⟨rfl, hb⟩
          have BX3 := hide ((BX2.out).next hb)
          clear hb BX2 HS6 y0 y1 y2 y3 y4 y5 y6
          go_wp2_with fail
          go_roundw
          case rel => exact ⟨k + 1, d, by omega, by omega, by go_num, by go_num, HD2, BX3⟩
          case measure => simp [intOf]; omega
        · have HD2 : Hid (d + 1 = cnt (isAu l) (k + 1)) := hide (by rw [HCC.out]; rfl)
          go_wp2_with fail
          refine Calls.mono ((C1.out) _) ?_
          rintro e w5 ⟨rfl, hb⟩
          have BX3 := hide ((BX2.out).next hb)
          clear hb BX2 HS6 y0 y1 y2 y3 y4 y5 y6
          go_wp2_with fail
          go_roundw
          case rel => exact ⟨k + 1, d + 1, by omega, by omega, by go_num, by go_num, HD2, BX3⟩
          case measure => simp [intOf]; omega
      · have hi : ¬ (k : Int) < (N : Int) := by omega
        have ek : k = N := by omega
        subst ek
        have C5 := hide (splitP_any free d wr hz0 (by omega) (by omega))
        clear CA
        go_wp2_with fail
        refine Calls.mono C5.out ?_
        rintro e w5 ⟨va, vn, vc, g, rfl, hvk, har, hb⟩
        have BX5 := hide ((BX.out).next hb)
        have hs6 : (w5.alloc (.cells #[.slice va vn vc] 23)).heap.size = w5.heap.size + 1 := World.size_alloc _ _
        have PT : Hid (PtS w5 (w5.alloc (.cells #[.slice va vn vc] 23)) w.heap.size w5.heap.size g d (.slice ao k cap) (cnt (isAu l) 0)) := hide ⟨(((Below.refl _ w5).alloc (Nat.le_refl _) _).block _ (Array.getElem?_eq_some_iff.1 (BX5.out).bx).1).trans (BX5.out).bx, ⟨_, heap_alloc_new w5 _, hvk⟩, (Below.refl _ w5).alloc (Nat.le_refl _) _⟩
        have BX6 := hide ((BX5.out).next ((Below.refl _ w5).alloc (Nat.le_refl _) (.cells #[.slice va vn vc] 23)))
        have C6 := hide ((CX.out) w.heap.size w5.heap.size g d (spV free (d : Int)) w5 (w5.alloc (.cells #[.slice va vn vc] 23)) ((HS.out).below (BX5.out).bel) har rfl (Array.getElem?_eq_some_iff.1 (BX5.out).bx).1 HD.out hs6 PT.out (BX5.out).bel.size ((HS.out).below (BX6.out).bel) (fun j hj => by
          have g := good_base (all_good HGG.out j (by rw [← HNL.out]; exact hj))
          have f := strX_bd (l := l) (c := (d : Int)) hz0 j
          omega))
        have HV2 : Hid (R = gtL l (strX l (spV free (d : Int)))) := hide (by rw [HV.out, HD.out, gtL_str, HNL.out])
        clear hb hvk har hs6 PT BX5 CX HV C5 BX
        have c9 := (BX6.out).cell
        go_upto_region 11 with fail
        generalize w5.alloc (.cells #[.slice va vn vc] 23) = w6 at *
        go_wp2_with fail
        refine Calls.mono C6.out ?_
        rintro e w7 ⟨u, rfl, hu, hb7⟩
        have HU := hide hu
        have HB7 := hide hb7
        clear hu hb7
        go_wp2_with fail
        go_ret
        exact ⟨_, rfl, by rw [HV2.out]; exact HU.out, (BX6.out).bel.trans HB7.out⟩
  · have HV : Hid (R = l) := hide (by rw [HR.out, if_neg hGZ])
    clear HR CX HZB HGG HCL
    cases G
    · go_enter Try.func14, Try.ntmps14
      go_upto_region 1 with fail
      generalize w.alloc (.cells #[.slice ao N cap] 22) = w1 at *
      have c0 := (BX0.out).cell
      have C1 := hide ((CG.out) w1 (BX0.out).bel)
      go_wp2_with fail
      refine Calls.mono C1.out ?_
      rintro e w2 ⟨rfl, hb⟩
      have BX2 := hide ((BX0.out).next hb)
      have c1 := (BX2.out).cell
      have C2 := hide ((CL.out) w2 (BX2.out).bel)
      clear hb c0 C1 BX0 CG
      go_wp2_with fail
      refine Calls.mono C2.out ?_
      rintro e w3 ⟨u, rfl, hown, hb⟩
      have HO := hide hown
      have HB := hide hb
      clear hown hb
      go_wp2_with fail
      go_ret
      exact ⟨_, rfl, by rw [HV.out]; exact szL_own (by rw [← HNL.out]; exact HO.out), (BX2.out).bel.trans ((HB.out).mono (BX2.out).bel.size)⟩
    · cases Z
      · go_enter Try.func14, Try.ntmps14
        go_upto_region 1 with fail
        generalize w.alloc (.cells #[.slice ao N cap] 22) = w1 at *
        have c0 := (BX0.out).cell
        have C1 := hide ((CG.out) w1 (BX0.out).bel)
        go_wp2_with fail
        refine Calls.mono C1.out ?_
        rintro e w2 ⟨rfl, hb⟩
        have BX2 := hide ((BX0.out).next hb)
        have c1 := (BX2.out).cell
        have C2 := hide ((CL.out) w2 (BX2.out).bel)
        clear hb c0 C1 BX0 CG
        go_wp2_with fail
        refine Calls.mono ((CW.out) _) ?_
        rintro e w4 ⟨rfl, rfl⟩
        go_wp2_with fail
        refine Calls.mono C2.out ?_
        rintro e w3 ⟨u, rfl, hown, hb⟩
        have HO := hide hown
        have HB := hide hb
        clear hown hb
        go_wp2_with fail
        go_ret
        exact ⟨_, rfl, by rw [HV.out]; exact szL_own (by rw [← HNL.out]; exact HO.out), (BX2.out).bel.trans ((HB.out).mono (BX2.out).bel.size)⟩
      · exact absurd ⟨rfl, rfl⟩ hGZ

end Go.Proofs.Ytaogioogpodmkaa

namespace Go.Proofs.Ytaogioogpodmkaa
open Go.RowKit

set_option maxRecDepth 100000 in
set_option maxHeartbeats 8000000 in
theorem total25_any (v : Value) (l : List SzD) (aa : Option Addr) (M ca : Nat) (f : Nat → Int) (w : World) (h : SzL w v l) (ha : ArI w aa M f) (hN : l.length ≤ 1000000) :
    Calls Try.prog 7 #[v, .slice aa M ca] w fun e w' => e = .returned (.tuple #[.int .i64 (totV l M f).1, .int .i64 (totV l M f).2]) ∧ Below w.heap.size w w' := by
  have CG := hide (areGood25_any v l w h hN)
  have HS := hide h
  have HA := hide ha
  obtain ⟨ao, cap, rfl⟩ := h.slice
  have HR : Hid (totV l M f = if l.all goodS = true ∧ M = l.length ∧ szS f l.length = true then (if sA (tB l f) l.length ≤ 68719476736 then (sA (tB l f) l.length, 0) else (0, 10)) else (0, 2)) := hide rfl
  have hgd : l.all goodS = true → ∀ k, k < l.length → goodS (l.getD k noSz) = true := fun h k hk => all_good h k hk
  have HGD := hide hgd
  have HTB := hide (fun (h1 : l.all goodS = true) (h2 : szS f l.length = true) k (hk : k < l.length) => tB_bd h1 h2 k hk)
  generalize totV l M f = R at *
  generalize l.all goodS = G at *
  obtain ⟨N, hN0⟩ : ∃ N, N = l.length := ⟨_, rfl⟩
  rw [← hN0] at CG HR HGD HTB hN HS
  rw [← hN0]
  have HNL := hide hN0
  clear h ha hgd hN0
  cases G
  · have HV : Hid (R = (0, 2)) := hide (by rw [HR.out, if_neg (fun hh => by have := hh.1; exact absurd this (by decide))])
    clear HR HGD HTB
    go_enter Try.func7, Try.ntmps7
    go_wp2_with fail
    refine Calls.mono CG.out ?_
    rintro e w1 ⟨rfl, hb⟩
    have HB := hide hb
    clear hb
    go_wp2_with fail
    go_ret2
    exact ⟨by rw [HV.out] <;> rfl, HB.out⟩
  · by_cases hMN : M = N
    · subst hMN
      have hnn : ((M : Int) != (M : Int)) = false := by simp
      have CN := hide (fun W (hb : Below w.heap.size w W) => anyNo_any aa M ca f W ((HA.out).below hb) hN)
      generalize hSS : szS f M = S at *
      have HSS := hide hSS
      clear hSS
      go_enter Try.func7, Try.ntmps7
      go_wp2_with fail
      refine Calls.mono CG.out ?_
      rintro e w1 ⟨rfl, hb⟩
      have ST := hide (MxS.mk ((HS.out).below hb) hb)
      have C1 := hide ((CN.out) w1 hb)
      clear hb CG CN
      cases S
      · have HV : Hid (R = (0, 2)) := hide (by rw [HR.out, if_neg (fun hh => by have h1 := hh.2.2; exact absurd h1 (by decide))])
        clear HR HGD HTB
        go_wp2_with fail
        refine Calls.mono C1.out ?_
        rintro e w2 ⟨rfl, rfl⟩
        go_wp2_with fail
        go_ret2
        exact ⟨by rw [HV.out] <;> rfl, (ST.out).bel⟩
      · have hp := HSS.out
        have HV0 : Hid (R = if sA (tB l f) M ≤ 68719476736 then (sA (tB l f) M, 0) else (0, 10)) := hide (by rw [HR.out, if_pos ⟨by trivial, by trivial, by trivial⟩])
        have HGB := hide (fun k hk => good_base ((HGD.out) (by trivial) k hk))
        have HAB := hide (fun k hk => isSz_bd (szS_at hp k hk))
        have HMO := hide (fun k (hk : k ≤ M) => sA_le_of (fun j hj => (HTB.out) (by trivial) (by trivial) j hj) (M - k) k (by omega))
        clear hp HR HTB HGD HSS
        go_wp2_with fail
        refine Calls.mono C1.out ?_
        rintro e w2 ⟨rfl, rfl⟩
        go_wp2_with fail
        go_loopw [7, 27] (fun n i wr => ∃ (k : Nat) (A : Int), k ≤ M ∧ i = .int .i64 (k : Int) ∧ n = .int .i64 A ∧ 0 ≤ A ∧ A ≤ 68719476736 ∧ Hid (A = sA (tB l f) k) ∧ Hid (MxS w wr (.slice ao M cap) l)) (fun _ i _ => M - (intOf i).toNat)
        case atStart => exact ⟨0, 0, Nat.zero_le _, by go_num, by go_num, by omega, by omega, hide rfl, ST⟩
        case round =>
          clear ST C1
          obtain ⟨k, A, hk, rfl, rfl, hA0, hA1, HAE, ST⟩ := hrel
          by_cases hkl : k < M
          · have hi : (k : Int) < (M : Int) := by omega
            have hn2 : ¬ (k : Int) < 0 := by omega
            have hkL : k < l.length := by rw [← HNL.out]; exact hkl
            obtain ⟨b, off, rfl, hlt, x0, x1, x2, x3, x4, x5, x6⟩ := (ST.out).l.at hkL
            obtain ⟨b', off', rfl, hb', hc'⟩ := (HA.out).at2 hkl
            have HC1 := hide (fun W (hb : Below w.heap.size w W) => (hb.cell (p := ⟨b', off' + k, none⟩) hb').trans hc')
            obtain ⟨g0, g1, -, -⟩ := (HGB.out) k hkl
            obtain ⟨a0, a1⟩ := (HAB.out) k hkl
            have hA2 : A + ((l.getD k noSz).base + f k) = sA (tB l f) (k + 1) := by rw [HAE.out]; simp only [sA, tB]
            have hmo := (HMO.out) (k + 1) (by omega)
            have HA2 := hide hA2
            have HMM := hide (show A + ((l.getD k noSz).base + f k) ≤ sA (tB l f) M by rw [hA2]; exact hmo)
            clear hA2 hmo hc' hb' hlt HGB HAB HMO HAE
            generalize l.getD k noSz = z at *
            obtain ⟨a1', a2', a3', q, a5', x, a7'⟩ := z
            generalize f k = y at *
            simp only at x0 x1 x2 x3 x4 x5 x6 g0 g1 HA2 HMM
            have ST2 := hide ((ST.out).next (((Below.refl _ wr).alloc (Nat.le_refl _) (.cells #[.int .i64 a1', .int .i64 a2', .int .i64 a3', .bool q, .int .i64 a5', .int .i64 x, .int .i64 a7'] 36))))
            have s6 : SzR (wr.alloc (.cells #[.int .i64 a1', .int .i64 a2', .int .i64 a3', .bool q, .int .i64 a5', .int .i64 x, .int .i64 a7'] 36)) wr.heap.size ⟨a1', a2', a3', q, a5', x, a7'⟩ := SzR.new wr ⟨a1', a2', a3', q, a5', x, a7'⟩
            have HS6 := hide s6
            clear s6 ST
            go_upto_region 8 with fail
            generalize wr.alloc (.cells #[.int .i64 a1', .int .i64 a2', .int .i64 a3', .bool q, .int .i64 a5', .int .i64 x, .int .i64 a7'] 36) = w2 at *
            generalize wr.heap.size = X at *
            clear x0 x1 x2 x3 x4 x5 x6
            obtain ⟨y0, y1, y2, y3, y4, y5, y6⟩ := (HS6.out).cells
            have e1 := (HC1.out) _ (ST2.out).bel
            have ST3 := hide ((ST2.out).next (Below.refl _ w2).drew)
            have hwr : IntKind.i64.wrap (A + (x + y)) = A + (x + y) := IntWalk.i64_in _ ⟨by omega, by omega⟩
            have hwr2 : IntKind.i64.wrap (x + y) = x + y := IntWalk.i64_in _ ⟨by omega, by omega⟩
            clear HC1
            go_region
            generalize World.drew w2 = w3 at *
            clear y0 y1 y2 y3 y4 y5 y6 e1 HS6 ST2
            have CI := hide (fun W => is_any (A + (x + y)) W)
            by_cases hov : 68719476736 < A + (x + y)
            · have hil : isLen (A + (x + y)) = false := by unfold isLen; exact decide_eq_false (by omega)
              have HV : Hid (R = (0, 10)) := hide (by rw [HV0.out, if_neg (by have := HMM.out; omega)])
              rw [hil] at CI
              clear HV0 HMM HA2 hil
              go_wp2_with fail
              refine Calls.mono ((CI.out) _) ?_
              rintro e w4 ⟨rfl, rfl⟩
              go_wp2_with fail
              go_ret2
              exact ⟨by rw [HV.out] <;> rfl, (ST3.out).bel⟩
            · have hil : isLen (A + (x + y)) = true := by unfold isLen; exact decide_eq_true (by omega)
              rw [hil] at CI
              clear HMM HV0 hil
              go_wp2_with fail
              refine Calls.mono ((CI.out) _) ?_
              rintro e w4 ⟨rfl, rfl⟩
              go_wp2_with fail
              go_roundw
              case rel => exact ⟨k + 1, _, by omega, by go_num, by go_num, by omega, by omega, HA2, ST3⟩
              case measure => simp [intOf]; omega
          · have hi : ¬ (k : Int) < (M : Int) := by omega
            have hae := HAE.out
            rw [show k = M by omega] at hae
            have HV : Hid (R = (A, 0)) := hide (by rw [HV0.out, ← hae, if_pos hA1])
            clear hae HAE HV0 HGB HAB HMO
            go_wp2_with fail
            go_ret2
            exact ⟨by rw [HV.out] <;> rfl, (ST.out).bel⟩
    · have hnn : ((M : Int) != (N : Int)) = true := by simp; omega
      have HV : Hid (R = (0, 2)) := hide (by rw [HR.out, if_neg (fun hh => hMN hh.2.1)])
      clear HR HGD HTB
      go_enter Try.func7, Try.ntmps7
      go_wp2_with fail
      refine Calls.mono CG.out ?_
      rintro e w1 ⟨rfl, hb⟩
      have HB := hide hb
      clear hb
      go_wp2_with fail
      go_ret2
      exact ⟨by rw [HV.out] <;> rfl, HB.out⟩

end Go.Proofs.Ytaogioogpodmkaa

namespace Go.Proofs.Ytaogioogpodmkaa
open Go.RowKit

def lv25 : List SzD := [⟨1, 1, 0, false, 0, 1, 3⟩, ⟨1, 1, 0, false, 0, 2, 10⟩]
def lv25o : List SzD := [⟨1, 1, 0, false, 0, 3, 3⟩, ⟨1, 1, 0, false, 0, 5, 10⟩]

theorem up_five : IsUp (rmF lv25) 2 5 (lf0 [2, 3]) := by
  refine ⟨3, 0, by decide, by decide, fun k hk => ?_, .inl ⟨by decide, by decide⟩⟩
  match k, hk with
  | 0, _ => decide
  | 1, _ => decide

theorem grq_five : GrQ lv25 5 lv25o := .inl ⟨⟨by decide, by decide⟩, lf0 [2, 3], .inl ⟨by decide, up_five⟩, rfl⟩

theorem szl_lit2 (w : World) (a b c e f g a' b' c' e' f' g' : Int) (q q' : Bool) : SzL (w.alloc (.cells #[.int .i64 a, .int .i64 b, .int .i64 c, .bool q, .int .i64 e, .int .i64 f, .int .i64 g, .int .i64 a', .int .i64 b', .int .i64 c', .bool q', .int .i64 e', .int .i64 f', .int .i64 g'] 36)) (.slice (some ⟨w.heap.size, 0, none⟩) 2 2) [⟨a, b, c, q, e, f, g⟩, ⟨a', b', c', q', e', f', g'⟩] := by
  have hn := heap_alloc_new w (.cells #[.int .i64 a, .int .i64 b, .int .i64 c, .bool q, .int .i64 e, .int .i64 f, .int .i64 g, .int .i64 a', .int .i64 b', .int .i64 c', .bool q', .int .i64 e', .int .i64 f', .int .i64 g'] 36)
  refine .inr ⟨_, 0, 2, rfl, by rw [World.size_alloc]; omega, fun i hi j u hu => ?_⟩
  rw [Lib.cell_of_heap hn]
  have hj : j < 7 := (List.getElem?_eq_some_iff.1 hu).1
  have hi2 : i < 2 := hi
  obtain rfl | rfl : i = 0 ∨ i = 1 := by omega
  all_goals (obtain rfl | rfl | rfl | rfl | rfl | rfl | rfl : j = 0 ∨ j = 1 ∨ j = 2 ∨ j = 3 ∨ j = 4 ∨ j = 5 ∨ j = 6 := by omega)
  all_goals exact hu

set_option maxRecDepth 100000 in
set_option maxHeartbeats 4000000 in
theorem lives25_any (w : World) : Calls Try.prog 6 #[] w fun e w' => e = .returned (.bool true) ∧ Below w.heap.size w w' := by
  have HL := hide (szl_lit2 w 1 1 0 0 1 3 1 1 0 0 2 10 false false)
  have B1 := hide ((Below.refl _ w).alloc (Nat.le_refl _) (.cells #[.int .i64 1, .int .i64 1, .int .i64 0, .bool false, .int .i64 0, .int .i64 1, .int .i64 3, .int .i64 1, .int .i64 1, .int .i64 0, .bool false, .int .i64 0, .int .i64 2, .int .i64 10] 36))
  go_enter Try.func6, Try.ntmps6
  go_upto_region 2 with fail
  generalize World.alloc w _ = w1 at *
  have CG := hide (grow25_any _ _ 5 w1 HL.out (by decide))
  go_wp2_with fail
  refine Calls.mono CG.out ?_
  rintro e w2 ⟨u, out, rfl, hu, hb, hq⟩
  have heq : out = lv25o := GrQ.uniq hq grq_five
  subst heq
  obtain ⟨ua, uc, rfl⟩ := hu.slice
  obtain ⟨b, off, rfl, hlt, -, -, -, -, -, x5, -⟩ := hu.at (k := 0) (by decide)
  obtain ⟨b', off', hb', -, -, -, -, -, -, y5, -⟩ := hu.at (k := 1) (by decide)
  obtain ⟨rfl, rfl⟩ : b = b' ∧ off = off' := by simpa using hb'
  have z0 : w2.cell? ⟨b, off + 5, none⟩ = some (.int .i64 3) := x5
  have z1 : w2.cell? ⟨b, off + 12, none⟩ = some (.int .i64 5) := y5
  have hl2 : lv25o.length = 2 := rfl
  rw [hl2]
  have HB : Hid (Below w.heap.size w w2) := hide ((B1.out).trans (hb.mono (B1.out).size))
  clear hu hb hq x5 y5 HL B1 hlt hb' hl2 CG
  go_wp2_with fail
  go_ret
  exact ⟨rfl, HB.out⟩

end Go.Proofs.Ytaogioogpodmkaa
