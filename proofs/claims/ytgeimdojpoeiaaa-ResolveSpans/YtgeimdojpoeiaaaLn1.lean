/- Which lines may be, of names of any length: both sides. -/
import Derived.Test.YtgeimdojpoeiaaaLn0
import Derived.Test.YtgeimdojpoeiaaaVal3
import Derived.Deep.RegionWith
import Derived.Deep.CutBlock
import Derived.Deep.DeepCutAuto
namespace Go.Proofs.Ytgeimdojpoeiaaa
open Go.RowKit

set_option maxRecDepth 100000 in
set_option maxHeartbeats 2000000 in
theorem auto_any (w : World) : Calls Try.prog 29 #[] w fun e w' => e = .returned (lnA ((1, 0), ⟨#[]⟩)) ∧ Below w.heap.size w w' := by
  have hb := (Below.refl _ w).alloc (Nat.le_refl _) (.cells #[.int .i64 0, .int .i64 0, .string ⟨#[]⟩] 24)
  have h1 := LnAt.new w 0 0 ⟨#[]⟩
  have z0 := h1.c0
  have z1 := h1.c1
  have z2 := h1.c2
  have zz := h1.z
  have HB := hide hb
  simp only at z0 z1 z2
  clear h1 hb
  go_enter Try.func29, Try.ntmps29
  go_upto_region 1 with fail
  generalize w.alloc (.cells #[.int .i64 0, .int .i64 0, .string ⟨#[]⟩] 24) = w1 at *
  go_wp2_with fail
  refine bodyPost_ret (v := lnA ((1, 0), ⟨#[]⟩)) (by simp [results, Try.results29, go_sem, z0, z1, z2, lnA]) rfl ⟨rfl, below_three HB.out (Nat.le_refl _) _ _ _⟩

theorem empty_or7 (s : ByteArray) : s = (⟨#[]⟩ : ByteArray) ∨ (¬ s.toList = [] ∧ ¬ s.size = 0 ∧ s.toList.isEmpty = false) := by
  by_cases h : s.size = 0
  · left
    apply ba_ext'
    have : s.data.toList.length = 0 := by rw [show s.data.toList.length = s.size by simp]; exact h
    rw [List.length_eq_zero_iff.1 this]
  · right
    have hne : ¬ s.toList = [] := fun h0 => h (by
      rw [ByteArray.toList_eq] at h0
      have : s.data.toList.length = 0 := by rw [h0]; rfl
      rw [show s.data.toList.length = s.size by simp] at this
      exact this)
    exact ⟨hne, h, by simpa using hne⟩

set_option maxRecDepth 100000 in
set_option maxHeartbeats 2000000 in
theorem custom_big (s : ByteArray) (w : World) (hs : s.size ≤ 140737488351232) :
    Calls Try.prog 28 #[.string s] w fun e w' => e = .returned (.bool (customV s)) ∧ Below w.heap.size w w' := by
  have cn := name_any s
  have ci := fun i w => iis_big s (KWc i) w hs (by have := KWc_size i; omega)
  have CI : Hid (∀ i w, Calls Try.prog 45 #[.string s, .string (KWc i)] w fun e w' => e = .returned (.bool (kwB s i)) ∧ Below w.heap.size w w') := ci
  clear ci
  go_enter Try.func28, Try.ntmps28
  go_wp2_with fail
  go_loopw [6] (fun i wr => ∃ k : Nat, k ≤ 7 ∧ i = .int .i64 (k : Int) ∧ Hid (customV s = cuB s (7 - k)) ∧ Below w.heap.size w wr) (fun i _ => (7 - intOf i).toNat)
  case atStart => exact ⟨0, Nat.zero_le _, by go_num, rfl, Below.refl _ _⟩
  case round =>
    obtain ⟨k, hk, rfl, hc, hB⟩ := hrel
    by_cases hlt : k < 7
    · have hi : (k : Int) < 7 := by omega
      have hix := kw_at k hlt
      have ci := CI.out k
      generalize hkw : kwB s k = X at *
      generalize KWc k = T at *
      cases X
      · have hc2 : Hid (customV s = cuB s (7 - (k + 1))) := cu_miss hlt hkw hc.out
        clear hc hkw
        go_wp2_with fail
        refine (ci _).mono ?_
        rintro e w1 ⟨rfl, hb1⟩
        have hB1 := hB.trans (hb1.mono hB.size)
        clear hix ci
        go_wp2_with fail
        go_round
        case rel => exact ⟨k + 1, by omega, by go_num, hc2, hB1⟩
        case measure => simp [intOf]; omega
      · have hc2 : Hid (customV s = false) := cu_hit hlt hkw hc.out
        clear hc hkw
        go_wp2_with fail
        refine (ci _).mono ?_
        rintro e w1 ⟨rfl, hb1⟩
        have hB1 := hB.trans (hb1.mono hB.size)
        clear hix ci
        go_wp2_with fail
        go_ret
        exact ⟨by rw [hc2.out]; rfl, hB1⟩
    · have hi : ¬ (k : Int) < 7 := by omega
      obtain rfl : k = 7 := by omega
      have hc2 : Hid (customV s = nameB s) := hc.out
      clear hc CI
      go_wp2_with fail
      refine (cn _).mono ?_
      rintro e w1 ⟨rfl, rfl⟩
      go_wp2_with fail
      go_ret
      exact ⟨by rw [hc2.out]; rfl, hB⟩

set_option maxRecDepth 100000 in
set_option maxHeartbeats 8000000 in
theorem good7_big (x : LnD) (w : World) (hs : x.2.size ≤ 140737488351232) : Calls Try.prog 15 #[lnA x] w fun e w' => e = .returned (.bool (goodLn x)) ∧ Below w.heap.size w w' := by
  obtain ⟨⟨k, n⟩, s⟩ := x
  simp only at hs
  have hL := LnAt.new w k n s
  have hb := (Below.refl _ w).alloc (Nat.le_refl _) (.cells #[.int .i64 k, .int .i64 n, .string s] 24)
  have cc := custom_big s (w.alloc (.cells #[.int .i64 k, .int .i64 n, .string s] 24)) hs
  have hgd : goodLn ((k, n), s) = if k = 1 then decide (n = 0) && decide (s.size = 0) else if k = 2 then decide (¬ n = 0) && decide (-10000 ≤ n) && decide (n ≤ 10000) && (decide (s.size = 0) || customV s) else if k = 3 then decide (n = 0) && customV s else if k = 4 then decide (1 ≤ n) && decide (n ≤ 10000) && (decide (s.size = 0) || customV s) else false := rfl
  generalize goodLn ((k, n), s) = GV at *
  generalize customV s = CB at *
  have HGD := hide hgd
  have CC := hide cc
  have HL := hide hL
  have HB := hide hb
  have c2 := hL.c2
  simp only at c2
  unfold lnA
  clear hgd cc hL hb hs
  go_enter Try.func15, Try.ntmps15
  go_wp2_with fail
  refine Calls.mono CC.out ?_
  rintro e w1 ⟨rfl, hb1⟩
  have hL1 := (HL.out).below hb1 (HL.out).lt
  have d0 := hL1.c0
  have d1 := hL1.c1
  have d2 := hL1.c2
  simp only at d0 d1 d2
  have HB1 := hide ((HB.out).trans (hb1.mono (HB.out).size))
  have HL1 := hide hL1
  have ca : ∀ w, Calls Try.prog 29 #[] w fun e w' => e = .returned (.agg #[.int .i64 1, .int .i64 0, .string ⟨#[]⟩]) ∧ Below w.heap.size w w' := fun w => auto_any w
  have CA := hide ca
  clear hb1 hL1 HL HB CC c2 ca
  rcases empty_or7 s with rfl | ⟨hse, hsz, hie⟩
  · rcases eqk k 1 with ⟨h1, h1b⟩ | ⟨h1, h1b⟩
    · subst h1
      clear h1b
      rcases eqk n 0 with ⟨hn, hnb⟩ | ⟨hn, hnb⟩
      · subst hn
        have hv := HGD.out
        simp [show (⟨#[]⟩ : ByteArray).size = 0 from rfl] at hv
        have HV := hide hv
        clear hv HGD
        go_upto_region 5 with fail
        go_region_with (first
          | (go_at_call 29; refine (unhide CA _).mono ?_; rintro e w2 ⟨rfl, hb2⟩; have hb3 : Below w1.heap.size w1 w2 := (Below.refl _ w1).drew.trans hb2; have L2 := (HL1.out).below hb3 (HL1.out).lt; have t0 := L2.c0; have t1 := L2.c1; have t2 := L2.c2; simp only at t0 t1 t2; have HB2 := hide ((HB1.out).trans (hb3.mono (HB1.out).size)); clear hb2 hb3 L2))
        all_goals (
          go_wp2_with fail
          go_ret
          first | exact ⟨by rw [HV.out] <;> rfl, HB2.out⟩ | exact ⟨by rw [HV.out] <;> rfl, (HB2.out).drew⟩)
      · have hv := HGD.out
        simp [hn] at hv
        have HV := hide hv
        clear hv HGD
        go_upto_region 5 with fail
        go_region_with (first
          | (go_at_call 29; refine (unhide CA _).mono ?_; rintro e w2 ⟨rfl, hb2⟩; have hb3 : Below w1.heap.size w1 w2 := (Below.refl _ w1).drew.trans hb2; have L2 := (HL1.out).below hb3 (HL1.out).lt; have t0 := L2.c0; have t1 := L2.c1; have t2 := L2.c2; simp only at t0 t1 t2; have HB2 := hide ((HB1.out).trans (hb3.mono (HB1.out).size)); clear hb2 hb3 L2))
        all_goals (
          go_wp2_with fail
          go_ret
          first | exact ⟨by rw [HV.out] <;> rfl, HB2.out⟩ | exact ⟨by rw [HV.out] <;> rfl, (HB2.out).drew⟩)
    · rcases eqk k 2 with ⟨h2, h2b⟩ | ⟨h2, h2b⟩
      · subst h2
        clear h2b
        rcases eqk n 0 with ⟨hn, hnb⟩ | ⟨hn, hnb⟩
        · subst hn
          have hv := HGD.out
          simp at hv
          have HV := hide hv
          clear hv HGD
          go_wp2_with fail
          go_ret
          exact ⟨by rw [HV.out] <;> rfl, HB1.out⟩
        · have hnn : (n != 0) = true := by rw [bne, hnb]; rfl
          by_cases hlo : -10000 ≤ n
          · by_cases hhi : n ≤ 10000
            · have hv := HGD.out
              simp [hn, hlo, hhi, show (⟨#[]⟩ : ByteArray).size = 0 from rfl] at hv
              have HV := hide hv
              clear hv HGD
              go_wp2_with fail
              go_ret
              exact ⟨by rw [HV.out] <;> rfl, HB1.out⟩
            · have hv := HGD.out
              simp [hhi] at hv
              have HV := hide hv
              clear hv HGD
              go_wp2_with fail
              go_ret
              exact ⟨by rw [HV.out] <;> rfl, HB1.out⟩
          · have hv := HGD.out
            simp [hlo] at hv
            have HV := hide hv
            clear hv HGD
            go_wp2_with fail
            go_ret
            exact ⟨by rw [HV.out] <;> rfl, HB1.out⟩
      · rcases eqk k 3 with ⟨h3, h3b⟩ | ⟨h3, h3b⟩
        · subst h3
          clear h3b
          rcases eqk n 0 with ⟨hn, hnb⟩ | ⟨hn, hnb⟩
          · subst hn
            cases CB
            · have hv := HGD.out
              simp at hv
              have HV := hide hv
              clear hv HGD
              go_wp2_with fail
              go_ret
              exact ⟨by rw [HV.out] <;> rfl, HB1.out⟩
            · have hv := HGD.out
              simp at hv
              have HV := hide hv
              clear hv HGD
              go_wp2_with fail
              go_ret
              exact ⟨by rw [HV.out] <;> rfl, HB1.out⟩
          · have hv := HGD.out
            simp [hn] at hv
            have HV := hide hv
            clear hv HGD
            go_wp2_with fail
            go_ret
            exact ⟨by rw [HV.out] <;> rfl, HB1.out⟩
        · rcases eqk k 4 with ⟨h4, h4b⟩ | ⟨h4, h4b⟩
          · subst h4
            clear h4b
            by_cases hlo : 1 ≤ n
            · by_cases hhi : n ≤ 10000
              · have hv := HGD.out
                simp [hlo, hhi, show (⟨#[]⟩ : ByteArray).size = 0 from rfl] at hv
                have HV := hide hv
                clear hv HGD
                go_wp2_with fail
                go_ret
                exact ⟨by rw [HV.out] <;> rfl, HB1.out⟩
              · have hv := HGD.out
                simp [hhi] at hv
                have HV := hide hv
                clear hv HGD
                go_wp2_with fail
                go_ret
                exact ⟨by rw [HV.out] <;> rfl, HB1.out⟩
            · have hv := HGD.out
              simp [hlo] at hv
              have HV := hide hv
              clear hv HGD
              go_wp2_with fail
              go_ret
              exact ⟨by rw [HV.out] <;> rfl, HB1.out⟩
          · have hv := HGD.out
            simp [h1, h2, h3, h4] at hv
            have HV := hide hv
            clear hv HGD
            go_wp2_with fail
            go_ret
            exact ⟨by rw [HV.out] <;> rfl, HB1.out⟩
  · rcases eqk k 1 with ⟨h1, h1b⟩ | ⟨h1, h1b⟩
    · subst h1
      clear h1b
      rcases eqk n 0 with ⟨hn, hnb⟩ | ⟨hn, hnb⟩
      · subst hn
        have hv := HGD.out
        simp [hsz] at hv
        have HV := hide hv
        clear hv HGD
        go_upto_region 5 with fail
        go_region_with (first
          | (go_at_call 29; refine (unhide CA _).mono ?_; rintro e w2 ⟨rfl, hb2⟩; have hb3 : Below w1.heap.size w1 w2 := (Below.refl _ w1).drew.trans hb2; have L2 := (HL1.out).below hb3 (HL1.out).lt; have t0 := L2.c0; have t1 := L2.c1; have t2 := L2.c2; simp only at t0 t1 t2; have HB2 := hide ((HB1.out).trans (hb3.mono (HB1.out).size)); clear hb2 hb3 L2))
        all_goals (
          go_wp2_with fail
          go_ret
          first | exact ⟨by rw [HV.out] <;> rfl, HB2.out⟩ | exact ⟨by rw [HV.out] <;> rfl, (HB2.out).drew⟩)
      · have hv := HGD.out
        simp [hn] at hv
        have HV := hide hv
        clear hv HGD
        go_upto_region 5 with fail
        go_region_with (first
          | (go_at_call 29; refine (unhide CA _).mono ?_; rintro e w2 ⟨rfl, hb2⟩; have hb3 : Below w1.heap.size w1 w2 := (Below.refl _ w1).drew.trans hb2; have L2 := (HL1.out).below hb3 (HL1.out).lt; have t0 := L2.c0; have t1 := L2.c1; have t2 := L2.c2; simp only at t0 t1 t2; have HB2 := hide ((HB1.out).trans (hb3.mono (HB1.out).size)); clear hb2 hb3 L2))
        all_goals (
          go_wp2_with fail
          go_ret
          first | exact ⟨by rw [HV.out] <;> rfl, HB2.out⟩ | exact ⟨by rw [HV.out] <;> rfl, (HB2.out).drew⟩)
    · rcases eqk k 2 with ⟨h2, h2b⟩ | ⟨h2, h2b⟩
      · subst h2
        clear h2b
        rcases eqk n 0 with ⟨hn, hnb⟩ | ⟨hn, hnb⟩
        · subst hn
          have hv := HGD.out
          simp at hv
          have HV := hide hv
          clear hv HGD
          go_wp2_with fail
          go_ret
          exact ⟨by rw [HV.out] <;> rfl, HB1.out⟩
        · have hnn : (n != 0) = true := by rw [bne, hnb]; rfl
          by_cases hlo : -10000 ≤ n
          · by_cases hhi : n ≤ 10000
            · cases CB
              · have hv := HGD.out
                simp [hn, hlo, hhi, hsz] at hv
                have HV := hide hv
                clear hv HGD
                go_wp2_with fail
                go_ret
                exact ⟨by rw [HV.out] <;> rfl, HB1.out⟩
              · have hv := HGD.out
                simp [hn, hlo, hhi] at hv
                have HV := hide hv
                clear hv HGD
                go_wp2_with fail
                go_ret
                exact ⟨by rw [HV.out] <;> rfl, HB1.out⟩
            · have hv := HGD.out
              simp [hhi] at hv
              have HV := hide hv
              clear hv HGD
              go_wp2_with fail
              go_ret
              exact ⟨by rw [HV.out] <;> rfl, HB1.out⟩
          · have hv := HGD.out
            simp [hlo] at hv
            have HV := hide hv
            clear hv HGD
            go_wp2_with fail
            go_ret
            exact ⟨by rw [HV.out] <;> rfl, HB1.out⟩
      · rcases eqk k 3 with ⟨h3, h3b⟩ | ⟨h3, h3b⟩
        · subst h3
          clear h3b
          rcases eqk n 0 with ⟨hn, hnb⟩ | ⟨hn, hnb⟩
          · subst hn
            cases CB
            · have hv := HGD.out
              simp at hv
              have HV := hide hv
              clear hv HGD
              go_wp2_with fail
              go_ret
              exact ⟨by rw [HV.out] <;> rfl, HB1.out⟩
            · have hv := HGD.out
              simp at hv
              have HV := hide hv
              clear hv HGD
              go_wp2_with fail
              go_ret
              exact ⟨by rw [HV.out] <;> rfl, HB1.out⟩
          · have hv := HGD.out
            simp [hn] at hv
            have HV := hide hv
            clear hv HGD
            go_wp2_with fail
            go_ret
            exact ⟨by rw [HV.out] <;> rfl, HB1.out⟩
        · rcases eqk k 4 with ⟨h4, h4b⟩ | ⟨h4, h4b⟩
          · subst h4
            clear h4b
            by_cases hlo : 1 ≤ n
            · by_cases hhi : n ≤ 10000
              · cases CB
                · have hv := HGD.out
                  simp [hlo, hhi, hsz] at hv
                  have HV := hide hv
                  clear hv HGD
                  go_wp2_with fail
                  go_ret
                  exact ⟨by rw [HV.out] <;> rfl, HB1.out⟩
                · have hv := HGD.out
                  simp [hlo, hhi] at hv
                  have HV := hide hv
                  clear hv HGD
                  go_wp2_with fail
                  go_ret
                  exact ⟨by rw [HV.out] <;> rfl, HB1.out⟩
              · have hv := HGD.out
                simp [hhi] at hv
                have HV := hide hv
                clear hv HGD
                go_wp2_with fail
                go_ret
                exact ⟨by rw [HV.out] <;> rfl, HB1.out⟩
            · have hv := HGD.out
              simp [hlo] at hv
              have HV := hide hv
              clear hv HGD
              go_wp2_with fail
              go_ret
              exact ⟨by rw [HV.out] <;> rfl, HB1.out⟩
          · have hv := HGD.out
            simp [h1, h2, h3, h4] at hv
            have HV := hide hv
            clear hv HGD
            go_wp2_with fail
            go_ret
            exact ⟨by rw [HV.out] <;> rfl, HB1.out⟩

theorem goodLn_kinds {x : LnD} (h : goodLn x = true) : x.1.1 = 1 ∨ x.1.1 = 2 ∨ x.1.1 = 3 ∨ x.1.1 = 4 := by
  unfold goodLn at h
  by_cases h1 : x.1.1 = 1
  · exact .inl h1
  · by_cases h2 : x.1.1 = 2
    · exact .inr (.inl h2)
    · by_cases h3 : x.1.1 = 3
      · exact .inr (.inr (.inl h3))
      · by_cases h4 : x.1.1 = 4
        · exact .inr (.inr (.inr h4))
        · simp [h1, h2, h3, h4] at h

theorem goodLn_num {x : LnD} (h : goodLn x = true) : -10000 ≤ x.1.2 ∧ x.1.2 ≤ 10000 := by
  unfold goodLn at h
  by_cases h1 : x.1.1 = 1
  · simp [h1] at h; omega
  · by_cases h2 : x.1.1 = 2
    · simp [h2] at h; omega
    · by_cases h3 : x.1.1 = 3
      · simp [h3] at h; omega
      · by_cases h4 : x.1.1 = 4
        · simp [h4] at h; omega
        · simp [h1, h2, h3, h4] at h

set_option maxRecDepth 100000 in
set_option maxHeartbeats 2000000 in
theorem rcustom_big (s : ByteArray) (w : World) (hs : s.size ≤ 140737488351232) :
    Calls Try.prog 41 #[.string s] w fun e w' => e = .returned (.bool (customV s)) ∧ Below w.heap.size w w' := by
  have cn := fun w => rname_any s w (by omega)
  have ci := fun i w => ris4_big s (KWc i) w hs (by have := KWc_size i; omega)
  have CI : Hid (∀ i w, Calls Try.prog 58 #[.string s, .string (KWc i)] w fun e w' => e = .returned (.bool (kwB s i)) ∧ Below w.heap.size w w') := ci
  clear ci
  go_enter Try.func41, Try.ntmps41
  go_wp2_with fail
  generalize hwa : World.alloc w _ = wa
  have hba : Below w.heap.size w wa := by rw [← hwa]; exact (Below.refl _ w).alloc (Nat.le_refl _) _
  have hsa : wa.heap.size = w.heap.size + 1 := by rw [← hwa]; simp
  have hT : Hid (∀ t : Nat, t < 7 → wa.cell? ⟨w.heap.size, t, none⟩ = some (.string (KWc t))) := by
    intro t ht7
    rw [← hwa, Lib.cell_of_heap (heap_alloc_new w _)]
    obtain rfl | rfl | rfl | rfl | rfl | rfl | rfl : t = 0 ∨ t = 1 ∨ t = 2 ∨ t = 3 ∨ t = 4 ∨ t = 5 ∨ t = 6 := by omega
    all_goals rfl
  clear hwa
  go_loopw [4] (fun i wr => ∃ k : Nat, k ≤ 7 ∧ i = .int .i64 (k : Int) ∧ Hid (customV s = cuB s (7 - k)) ∧ Below wa.heap.size wa wr) (fun i _ => (7 - intOf i).toNat)
  case atStart => exact ⟨0, Nat.zero_le _, by go_num, rfl, Below.refl _ _⟩
  case round =>
    obtain ⟨k, hk, rfl, hc, hB⟩ := hrel
    by_cases hlt : k < 7
    · have hi : (k : Int) < 7 := by omega
      have hcr : wr.cell? ⟨w.heap.size, k, none⟩ = some (.string (KWc k)) := by rw [← hT.out k hlt]; exact hB.cell (by rw [hsa]; simp)
      have ci := CI.out k
      generalize hkw : kwB s k = X at *
      generalize KWc k = T at *
      cases X
      · have hc2 : Hid (customV s = cuB s (7 - (k + 1))) := cu_miss hlt hkw hc.out
        clear hc hkw
        go_wp2_with fail
        refine (ci _).mono ?_
        rintro e w1 ⟨rfl, hb1⟩
        have hB1 := hB.trans (hb1.mono hB.size)
        clear hcr ci
        go_wp2_with fail
        go_round
        case rel => exact ⟨k + 1, by omega, by go_num, hc2, hB1⟩
        case measure => simp [intOf]; omega
      · have hc2 : Hid (customV s = false) := cu_hit hlt hkw hc.out
        clear hc hkw
        go_wp2_with fail
        refine (ci _).mono ?_
        rintro e w1 ⟨rfl, hb1⟩
        have hB1 := hB.trans (hb1.mono hB.size)
        have hB2 := hba.trans (hB1.mono hba.size)
        clear hcr ci
        go_wp2_with fail
        go_ret
        exact ⟨by rw [hc2.out]; rfl, hB2⟩
    · have hi : ¬ (k : Int) < 7 := by omega
      obtain rfl : k = 7 := by omega
      have hc2 : Hid (customV s = nameB s) := hc.out
      have hB2 := hba.trans (hB.mono hba.size)
      clear hc CI
      go_wp2_with fail
      refine (cn _).mono ?_
      rintro e w1 ⟨rfl, rfl⟩
      go_wp2_with fail
      go_ret
      exact ⟨by rw [hc2.out]; rfl, hB2⟩

set_option maxRecDepth 100000 in
set_option maxHeartbeats 8000000 in
theorem rgood7_big (x : LnD) (w : World) (hs : x.2.size ≤ 140737488351232) : Calls Try.prog 23 #[lnA x] w fun e w' => e = .returned (.bool (goodLn x)) ∧ Below w.heap.size w w' := by
  obtain ⟨⟨k, n⟩, s⟩ := x
  simp only at hs
  have hL := LnAt.new w k n s
  have hb := (Below.refl _ w).alloc (Nat.le_refl _) (.cells #[.int .i64 k, .int .i64 n, .string s] 24)
  have cc := rcustom_big s (w.alloc (.cells #[.int .i64 k, .int .i64 n, .string s] 24)) hs
  have hgd : goodLn ((k, n), s) = if k = 1 then decide (n = 0) && decide (s.size = 0) else if k = 2 then decide (¬ n = 0) && decide (-10000 ≤ n) && decide (n ≤ 10000) && (decide (s.size = 0) || customV s) else if k = 3 then decide (n = 0) && customV s else if k = 4 then decide (1 ≤ n) && decide (n ≤ 10000) && (decide (s.size = 0) || customV s) else false := rfl
  generalize goodLn ((k, n), s) = GV at *
  generalize customV s = CB at *
  have HGD := hide hgd
  have CC := hide cc
  have HL := hide hL
  have HB := hide hb
  have c2 := hL.c2
  simp only at c2
  unfold lnA
  clear hgd cc hL hb hs
  go_enter Try.func23, Try.ntmps23
  go_wp2_with fail
  refine Calls.mono CC.out ?_
  rintro e w1 ⟨rfl, hb1⟩
  have hL1 := (HL.out).below hb1 (HL.out).lt
  have d0 := hL1.c0
  have d1 := hL1.c1
  have d2 := hL1.c2
  simp only at d0 d1 d2
  have HB1 := hide ((HB.out).trans (hb1.mono (HB.out).size))
  clear hb1 hL1 HL HB CC c2
  rcases empty_or7 s with rfl | ⟨hse, hsz, hie⟩
  · rcases eqk k 1 with ⟨h1, h1b⟩ | ⟨h1, h1b⟩
    · subst h1
      clear h1b
      rcases eqk n 0 with ⟨hn, hnb⟩ | ⟨hn, hnb⟩
      · subst hn
        have hv := HGD.out
        simp [show (⟨#[]⟩ : ByteArray).size = 0 from rfl] at hv
        have HV := hide hv
        clear hv HGD
        go_wp2_with fail
        go_ret
        exact ⟨by rw [HV.out] <;> rfl, HB1.out⟩
      · have hv := HGD.out
        simp [hn] at hv
        have HV := hide hv
        clear hv HGD
        go_wp2_with fail
        go_ret
        exact ⟨by rw [HV.out] <;> rfl, HB1.out⟩
    · rcases eqk k 2 with ⟨h2, h2b⟩ | ⟨h2, h2b⟩
      · subst h2
        clear h2b
        rcases eqk n 0 with ⟨hn, hnb⟩ | ⟨hn, hnb⟩
        · subst hn
          have hv := HGD.out
          simp at hv
          have HV := hide hv
          clear hv HGD
          go_wp2_with fail
          go_ret
          exact ⟨by rw [HV.out] <;> rfl, HB1.out⟩
        · have hnn : (n != 0) = true := by rw [bne, hnb]; rfl
          by_cases hlo : -10000 ≤ n
          · by_cases hhi : n ≤ 10000
            · have hv := HGD.out
              simp [hn, hlo, hhi, show (⟨#[]⟩ : ByteArray).size = 0 from rfl] at hv
              have HV := hide hv
              clear hv HGD
              go_wp2_with fail
              go_ret
              exact ⟨by rw [HV.out] <;> rfl, HB1.out⟩
            · have hv := HGD.out
              simp [hhi] at hv
              have HV := hide hv
              clear hv HGD
              go_wp2_with fail
              go_ret
              exact ⟨by rw [HV.out] <;> rfl, HB1.out⟩
          · have hv := HGD.out
            simp [hlo] at hv
            have HV := hide hv
            clear hv HGD
            go_wp2_with fail
            go_ret
            exact ⟨by rw [HV.out] <;> rfl, HB1.out⟩
      · rcases eqk k 3 with ⟨h3, h3b⟩ | ⟨h3, h3b⟩
        · subst h3
          clear h3b
          rcases eqk n 0 with ⟨hn, hnb⟩ | ⟨hn, hnb⟩
          · subst hn
            cases CB
            · have hv := HGD.out
              simp at hv
              have HV := hide hv
              clear hv HGD
              go_wp2_with fail
              go_ret
              exact ⟨by rw [HV.out] <;> rfl, HB1.out⟩
            · have hv := HGD.out
              simp at hv
              have HV := hide hv
              clear hv HGD
              go_wp2_with fail
              go_ret
              exact ⟨by rw [HV.out] <;> rfl, HB1.out⟩
          · have hv := HGD.out
            simp [hn] at hv
            have HV := hide hv
            clear hv HGD
            go_wp2_with fail
            go_ret
            exact ⟨by rw [HV.out] <;> rfl, HB1.out⟩
        · rcases eqk k 4 with ⟨h4, h4b⟩ | ⟨h4, h4b⟩
          · subst h4
            clear h4b
            by_cases hlo : 1 ≤ n
            · by_cases hhi : n ≤ 10000
              · have hv := HGD.out
                simp [hlo, hhi, show (⟨#[]⟩ : ByteArray).size = 0 from rfl] at hv
                have HV := hide hv
                clear hv HGD
                go_wp2_with fail
                go_ret
                exact ⟨by rw [HV.out] <;> rfl, HB1.out⟩
              · have hv := HGD.out
                simp [hhi] at hv
                have HV := hide hv
                clear hv HGD
                go_wp2_with fail
                go_ret
                exact ⟨by rw [HV.out] <;> rfl, HB1.out⟩
            · have hv := HGD.out
              simp [hlo] at hv
              have HV := hide hv
              clear hv HGD
              go_wp2_with fail
              go_ret
              exact ⟨by rw [HV.out] <;> rfl, HB1.out⟩
          · have hv := HGD.out
            simp [h1, h2, h3, h4] at hv
            have HV := hide hv
            clear hv HGD
            go_wp2_with fail
            go_ret
            exact ⟨by rw [HV.out] <;> rfl, HB1.out⟩
  · rcases eqk k 1 with ⟨h1, h1b⟩ | ⟨h1, h1b⟩
    · subst h1
      clear h1b
      rcases eqk n 0 with ⟨hn, hnb⟩ | ⟨hn, hnb⟩
      · subst hn
        have hv := HGD.out
        simp [hsz] at hv
        have HV := hide hv
        clear hv HGD
        go_wp2_with fail
        go_ret
        exact ⟨by rw [HV.out] <;> rfl, HB1.out⟩
      · have hv := HGD.out
        simp [hn] at hv
        have HV := hide hv
        clear hv HGD
        go_wp2_with fail
        go_ret
        exact ⟨by rw [HV.out] <;> rfl, HB1.out⟩
    · rcases eqk k 2 with ⟨h2, h2b⟩ | ⟨h2, h2b⟩
      · subst h2
        clear h2b
        rcases eqk n 0 with ⟨hn, hnb⟩ | ⟨hn, hnb⟩
        · subst hn
          have hv := HGD.out
          simp at hv
          have HV := hide hv
          clear hv HGD
          go_wp2_with fail
          go_ret
          exact ⟨by rw [HV.out] <;> rfl, HB1.out⟩
        · have hnn : (n != 0) = true := by rw [bne, hnb]; rfl
          by_cases hlo : -10000 ≤ n
          · by_cases hhi : n ≤ 10000
            · cases CB
              · have hv := HGD.out
                simp [hn, hlo, hhi, hsz] at hv
                have HV := hide hv
                clear hv HGD
                go_wp2_with fail
                go_ret
                exact ⟨by rw [HV.out] <;> rfl, HB1.out⟩
              · have hv := HGD.out
                simp [hn, hlo, hhi] at hv
                have HV := hide hv
                clear hv HGD
                go_wp2_with fail
                go_ret
                exact ⟨by rw [HV.out] <;> rfl, HB1.out⟩
            · have hv := HGD.out
              simp [hhi] at hv
              have HV := hide hv
              clear hv HGD
              go_wp2_with fail
              go_ret
              exact ⟨by rw [HV.out] <;> rfl, HB1.out⟩
          · have hv := HGD.out
            simp [hlo] at hv
            have HV := hide hv
            clear hv HGD
            go_wp2_with fail
            go_ret
            exact ⟨by rw [HV.out] <;> rfl, HB1.out⟩
      · rcases eqk k 3 with ⟨h3, h3b⟩ | ⟨h3, h3b⟩
        · subst h3
          clear h3b
          rcases eqk n 0 with ⟨hn, hnb⟩ | ⟨hn, hnb⟩
          · subst hn
            cases CB
            · have hv := HGD.out
              simp at hv
              have HV := hide hv
              clear hv HGD
              go_wp2_with fail
              go_ret
              exact ⟨by rw [HV.out] <;> rfl, HB1.out⟩
            · have hv := HGD.out
              simp at hv
              have HV := hide hv
              clear hv HGD
              go_wp2_with fail
              go_ret
              exact ⟨by rw [HV.out] <;> rfl, HB1.out⟩
          · have hv := HGD.out
            simp [hn] at hv
            have HV := hide hv
            clear hv HGD
            go_wp2_with fail
            go_ret
            exact ⟨by rw [HV.out] <;> rfl, HB1.out⟩
        · rcases eqk k 4 with ⟨h4, h4b⟩ | ⟨h4, h4b⟩
          · subst h4
            clear h4b
            by_cases hlo : 1 ≤ n
            · by_cases hhi : n ≤ 10000
              · cases CB
                · have hv := HGD.out
                  simp [hlo, hhi, hsz] at hv
                  have HV := hide hv
                  clear hv HGD
                  go_wp2_with fail
                  go_ret
                  exact ⟨by rw [HV.out] <;> rfl, HB1.out⟩
                · have hv := HGD.out
                  simp [hlo, hhi] at hv
                  have HV := hide hv
                  clear hv HGD
                  go_wp2_with fail
                  go_ret
                  exact ⟨by rw [HV.out] <;> rfl, HB1.out⟩
              · have hv := HGD.out
                simp [hhi] at hv
                have HV := hide hv
                clear hv HGD
                go_wp2_with fail
                go_ret
                exact ⟨by rw [HV.out] <;> rfl, HB1.out⟩
            · have hv := HGD.out
              simp [hlo] at hv
              have HV := hide hv
              clear hv HGD
              go_wp2_with fail
              go_ret
              exact ⟨by rw [HV.out] <;> rfl, HB1.out⟩
          · have hv := HGD.out
            simp [h1, h2, h3, h4] at hv
            have HV := hide hv
            clear hv HGD
            go_wp2_with fail
            go_ret
            exact ⟨by rw [HV.out] <;> rfl, HB1.out⟩

end Go.Proofs.Ytgeimdojpoeiaaa
