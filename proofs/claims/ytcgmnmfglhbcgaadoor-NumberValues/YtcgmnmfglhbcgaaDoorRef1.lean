/- What the document's own Parts and Scan answer. -/
import Derived.Test.YtcgmnmfglhbcgaaDoorNum9
namespace Go.Proofs.YtcgmnmfglhbcgaaDoor
open Go.RowKit

theorem u8_int (c : UInt8) (n : Nat) (h : n < 256) : ((c.toNat : Int) == (n : Int)) = (c == UInt8.ofNat n) := by
  have e : (UInt8.ofNat n).toNat = n := by simp; omega
  rw [Bool.eq_iff_iff]
  simp only [beq_iff_eq]
  constructor
  · intro hh
    apply UInt8.toNat_inj.1
    rw [e]; omega
  · intro hh
    rw [hh, e]
theorem idx_two (a b c : UInt8) : decide (0 ≤ Lib.indexByte [a, b] c) = (c == a || c == b) := by
  rw [BEq.comm (a := c) (b := a), BEq.comm (a := c) (b := b)]
  cases h1 : (a == c) <;> cases h2 : (b == c) <;> simp [Lib.indexByte, h1, h2]
theorem idx_one (a c : UInt8) : decide (0 ≤ Lib.indexByte [a] c) = (c == a) := by
  rw [BEq.comm (a := c) (b := a)]
  cases h1 : (a == c) <;> simp [Lib.indexByte, h1]
theorem has_PM {s : ByteArray} {k : Nat} (h : k < s.size) : hasAt PM s k = (((s[k].toNat : Int) == 43) || ((s[k].toNat : Int) == 45)) := by
  unfold hasAt
  rw [byte_at s k h, show PM.data.toList = [43, 45] from rfl, idx_two, show ((s[k].toNat : Int) == 43) = (s[k] == 43) from u8_int _ 43 (by omega), show ((s[k].toNat : Int) == 45) = (s[k] == 45) from u8_int _ 45 (by omega)]
  simp [h]
theorem has_EE {s : ByteArray} {k : Nat} (h : k < s.size) : hasAt EE s k = (((s[k].toNat : Int) == 101) || ((s[k].toNat : Int) == 69)) := by
  unfold hasAt
  rw [byte_at s k h, show EE.data.toList = [101, 69] from rfl, idx_two, show ((s[k].toNat : Int) == 101) = (s[k] == 101) from u8_int _ 101 (by omega), show ((s[k].toNat : Int) == 69) = (s[k] == 69) from u8_int _ 69 (by omega)]
  simp [h]
theorem has_DOT {s : ByteArray} {k : Nat} (h : k < s.size) : hasAt DOT s k = ((s[k].toNat : Int) == 46) := by
  unfold hasAt
  rw [byte_at s k h, show DOT.data.toList = [46] from rfl, idx_one, show ((s[k].toNat : Int) == 46) = (s[k] == 46) from u8_int _ 46 (by omega)]
  simp [h]
theorem has_out {g s : ByteArray} {k : Nat} (h : ¬ k < s.size) : hasAt g s k = false := by simp [hasAt, h]

set_option maxHeartbeats 400000 in
theorem rdigit_any (c : UInt8) (w : World) : Calls Tryd.prog 34 #[.int .u8 (c.toNat : Int)] w fun e w' => e = .returned (.bool (dg c)) ∧ w' = w := by
  cases h : dg c
  · have hb := dg_false h
    clear h
    rcases hb with hb | hb
    · have h1 : ¬ (48 : Int) ≤ (c.toNat : Int) := by omega
      go_enter Tryd.func34, Tryd.ntmps34
      go_wp2
      go_ret
      exact ⟨rfl, rfl⟩
    · have h1 : (48 : Int) ≤ (c.toNat : Int) := by omega
      have h2 : ¬ (c.toNat : Int) ≤ 57 := by omega
      go_enter Tryd.func34, Tryd.ntmps34
      go_wp2
      go_ret
      exact ⟨rfl, rfl⟩
  · have hb := dg_true h
    have h1 := hb.1
    have h2 := hb.2
    clear h hb
    go_enter Tryd.func34, Tryd.ntmps34
    go_wp2
    go_ret
    exact ⟨rfl, rfl⟩

set_option maxRecDepth 100000 in
set_option maxHeartbeats 1000000 in
theorem rdigits_any (s : ByteArray) (k : Nat) (w : World) (hs : s.size ≤ 4611686018427387000) (hk : k ≤ 4611686018427387000) :
    Calls Tryd.prog 50 #[.string s, .int .i64 (k : Int)] w fun e w' => e = .returned (.int .i64 (run s k : Int)) ∧ w' = w := by
  by_cases hks : k ≤ s.size
  · go_enter Tryd.func50, Tryd.ntmps50
    go_wp2_with fail
    go_loopw [5] (fun x wr => ∃ n : Nat, k + n ≤ s.size ∧ x = .int .i64 (n : Int) ∧ Hid (run s k = n + run s (k + n)) ∧ wr = w) (fun x _ => s.size - k - (intOf x).toNat)
    case atStart => exact ⟨0, by omega, rfl, hide (by simp), rfl⟩
    case round =>
      obtain ⟨n, hn, rfl, HN, rfl⟩ := hrel
      obtain ⟨p, hp⟩ : ∃ p, p = k + n := ⟨_, rfl⟩
      have hpi : (k : Int) + (n : Int) = (p : Int) := by omega
      rw [← hp] at HN
      have HP := hide hp
      have hp1 : p ≤ s.size := by omega
      clear hp
      by_cases hlt : p < s.size
      · have hi : (p : Int) < (s.size : Int) := by omega
        have cd := rdigit_any s[p]
        have hN := HN.out
        cases hd : dg s[p]
        · rw [run_miss hlt hd] at hN
          rw [hd] at cd
          have CD := hide cd
          have HN2 := hide hN
          clear cd hN HN hd
          go_wp2_with fail
          refine (unhide CD _).mono ?_
          rintro e w1 ⟨rfl, rfl⟩
          go_wp2_with fail
          go_ret
          exact ⟨by rw [HN2.out]; rfl, rfl⟩
        · rw [run_hit hlt hd] at hN
          rw [hd] at cd
          have CD := hide cd
          have HN2 := hide hN
          clear cd hN HN hd
          go_wp2_with fail
          refine (unhide CD _).mono ?_
          rintro e w1 ⟨rfl, rfl⟩
          go_wp2_with fail
          go_round
          case rel => exact ⟨n + 1, by have := HP.out; omega, by go_num, hide (by rw [HN2.out, show k + (n + 1) = p + 1 by have := HP.out; omega]; omega), trivial⟩
          case measure => have := HP.out; simp [intOf]; omega
      · have hi : ¬ (p : Int) < (s.size : Int) := by omega
        have hN := HN.out
        rw [run_end (s := s) (k := p) (by omega)] at hN
        have HN2 := hide hN
        clear hN HN
        go_wp2_with fail
        go_ret
        exact ⟨by rw [HN2.out]; rfl, rfl⟩
  · have hi : ¬ (k : Int) < (s.size : Int) := by omega
    rw [run_end (by omega)]
    go_enter Tryd.func50, Tryd.ntmps50
    go_wp2_with fail
    go_loopw [5] (fun x wr => x = .int .i64 0 ∧ wr = w) (fun _ _ => 0)
    case atStart => exact ⟨rfl, rfl⟩
    case round =>
      obtain ⟨rfl, rfl⟩ := hrel
      go_wp2_with fail
      go_ret
      exact ⟨rfl, rfl⟩

set_option maxRecDepth 100000 in
set_option maxHeartbeats 1000000 in
theorem rsign_any (s : ByteArray) (k : Nat) (w : World) :
    Calls Tryd.prog 49 #[.string s, .int .i64 (k : Int)] w fun e w' => e = .returned (.int .i64 ((hasAt PM s k).toNat : Int)) ∧ w' = w := by
  by_cases hlt : k < s.size
  · have hi : (k : Int) < (s.size : Int) := by omega
    rw [has_PM hlt]
    cases h1 : ((s[k].toNat : Int) == 43)
    · cases h2 : ((s[k].toNat : Int) == 45)
      · go_enter Tryd.func49, Tryd.ntmps49
        go_wp2_with fail
        go_ret
        exact ⟨rfl, rfl⟩
      · go_enter Tryd.func49, Tryd.ntmps49
        go_wp2_with fail
        go_ret
        exact ⟨rfl, rfl⟩
    · go_enter Tryd.func49, Tryd.ntmps49
      go_wp2_with fail
      go_ret
      exact ⟨rfl, rfl⟩
  · have hi : ¬ (k : Int) < (s.size : Int) := by omega
    rw [has_out hlt]
    go_enter Tryd.func49, Tryd.ntmps49
    go_wp2_with fail
    go_ret
    exact ⟨rfl, rfl⟩

theorem results_tmp5 {fn : Func} {a b c d f : Tmp} (h : fn.results = #[.tmp a, .tmp b, .tmp c, .tmp d, .tmp f]) (tmps : Array Value) (P : Program) (w : World) :
    (results fn tmps).run P w = .ok (.tuple #[tmps.getD a undef, tmps.getD b undef, tmps.getD c undef, tmps.getD d undef, tmps.getD f undef]) w := by
  simp [results, h]

/-- The parts, by the document. -/
def partsV (s : ByteArray) : Array Value :=
  if noneB s = true then #[.int .i64 0, .int .i64 0, .int .i64 0, .int .i64 0, .int .i64 0]
  else #[.int .i64 ((hasAt PM s 0).toNat : Int), .int .i64 (run s (hasAt PM s 0).toNat : Int), .int .i64 (fracN s : Int), .int .i64 (if expN s = 0 then 0 else ((aThree s + 1 : Nat) : Int)), .int .i64 (lenV' s : Int)]

set_option maxRecDepth 100000 in
set_option maxHeartbeats 2000000 in
theorem parts_any (s : ByteArray) (w : World) (hs : s.size ≤ 4611686018427380000) :
    Calls Tryd.prog 29 #[.string s] w fun e w' => e = .returned (.tuple (partsV s)) ∧ w' = w := by
  obtain ⟨k0, hk0⟩ : ∃ k0, k0 = (hasAt PM s 0).toNat := ⟨_, rfl⟩
  obtain ⟨n1, hn1⟩ : ∃ n1, n1 = run s k0 := ⟨_, rfl⟩
  obtain ⟨a1, ha1⟩ : ∃ a1, a1 = aOne s := ⟨_, rfl⟩
  have hk0s : k0 ≤ s.size := by
    rw [hk0]; cases h : hasAt PM s 0
    · simp
    · have := hasAt_lt h; simp; omega
  have h1s := run_le s k0 hk0s
  have ha1' : a1 = k0 + n1 := by rw [ha1, hn1, hk0]; rfl
  have csg := fun w => rsign_any s 0 w
  have cdg := fun w => rdigits_any s k0 w (by omega) (by omega)
  rw [← hk0] at csg
  rw [← hn1] at cdg
  rw [← hn1] at h1s
  have hk0n : k0 ≤ 1 := by rw [hk0]; exact toNat_le _
  have CSG := hide csg
  have CDG := hide cdg
  have hai : (k0 : Int) + (n1 : Int) = (a1 : Int) := by omega
  have ha1s : a1 ≤ s.size := by omega
  have HK0 := hide hk0
  have HN1 := hide hn1
  have HA1 := hide ha1
  clear csg cdg hk0 hn1 ha1 ha1' h1s
  obtain ⟨dot, edot⟩ : ∃ dot, dot = hasAt DOT s a1 := ⟨_, rfl⟩
  obtain ⟨n2, en2⟩ : ∃ n2, n2 = fracN s := ⟨_, rfl⟩
  obtain ⟨a3, ea3⟩ : ∃ a3, a3 = aThree s := ⟨_, rfl⟩
  have hn2 : n2 = if dot then run s (a1 + 1) else 0 := by rw [en2]; unfold fracN; rw [← HA1.out, ← edot]
  have ha3 : a3 = if n2 = 0 then a1 else (if dot then a1 + 1 + run s (a1 + 1) else a1) := by rw [ea3]; unfold aThree aTwo; rw [← HA1.out, ← edot, ← en2]
  have hnb : noneB s = ((n1 == 0) && (n2 == 0)) := by unfold noneB; rw [← HK0.out, ← HN1.out, ← en2]
  have hpv : partsV s = if noneB s = true then #[.int .i64 0, .int .i64 0, .int .i64 0, .int .i64 0, .int .i64 0]
      else #[.int .i64 (k0 : Int), .int .i64 (n1 : Int), .int .i64 (n2 : Int), .int .i64 (if expN s = 0 then 0 else ((a3 + 1 : Nat) : Int)), .int .i64 (lenV' s : Int)] := by
    unfold partsV; rw [← HK0.out, ← HN1.out, ← en2, ← ea3]
  have ha3s : a3 ≤ s.size := by
    rw [ha3]
    split
    · exact ha1s
    · split
      · rename_i h; rw [edot] at h; exact run_le s (a1 + 1) (hasAt_lt h)
      · exact ha1s
  have HN2 := hide hn2
  have HA3 := hide ha3
  have HNB := hide hnb
  have HPV := hide hpv
  have EDOT := hide edot
  have EA3 := hide ea3
  clear hn2 ha3 hnb hpv edot ea3 en2 HK0 HN1
  go_enter Tryd.func29, Tryd.ntmps29
  go_wp2_with fail
  refine (unhide CSG _).mono ?_
  rintro e w1 ⟨rfl, rfl⟩
  go_wp2_with fail
  refine (unhide CDG _).mono ?_
  rintro e w2 ⟨rfl, rfl⟩
  clear CSG CDG
  go_upto_region 5 with fail
  go_cut [30] (fun b wx => b = .bool dot ∧ wx = w2)
  case first =>
    by_cases hlt : a1 < s.size
    · have hi : (a1 : Int) < (s.size : Int) := by omega
      have h := has_DOT hlt
      rw [← EDOT.out] at h
      have HD := hide h
      clear h
      cases hx : ((s[a1].toNat : Int) == 46)
      · have hd : dot = false := by rw [HD.out]; exact hx
        subst hd
        go_wp2_with fail
        go_meet
        case rel => exact ⟨rfl, rfl⟩
      · have hd : dot = true := by rw [HD.out]; exact hx
        subst hd
        go_wp2_with fail
        go_meet
        case rel => exact ⟨rfl, rfl⟩
    · have hi : ¬ (a1 : Int) < (s.size : Int) := by omega
      have hd : dot = false := by rw [EDOT.out]; exact has_out hlt
      subst hd
      go_wp2_with fail
      go_meet
      case rel => exact ⟨rfl, rfl⟩
  case rest =>
    obtain ⟨rfl, rfl⟩ := hcut
    go_upto_if 30 with fail
    go_cut [9, 10] (fun x y wx => x = .int .i64 (a3 : Int) ∧ y = .int .i64 (n2 : Int) ∧ wx = wc)
    case first =>
      cases dot
      · have h2 : n2 = 0 := HN2.out
        have h3 : a3 = a1 := by rw [HA3.out, if_pos h2]
        have H2 := hide h2
        have H3 := hide h3
        clear h2 h3
        go_wp2_with fail
        go_meet
        case rel => exact ⟨by rw [H3.out], by rw [H2.out]; rfl, rfl⟩
      · have hd := EDOT.out
        have ha1 : a1 < s.size := hasAt_lt hd.symm
        obtain ⟨q, hq⟩ : ∃ q, q = a1 + 1 := ⟨_, rfl⟩
        have hqi : (a1 : Int) + 1 = (q : Int) := by omega
        have h2 : n2 = run s q := by rw [hq]; exact HN2.out
        have h3 : a3 = if n2 = 0 then a1 else q + n2 := by rw [h2, hq]; rw [HA3.out, HN2.out]; rfl
        have cq := fun w => rdigits_any s q w (by omega) (by omega)
        rw [← h2] at cq
        have hql := run_le s q (by omega)
        rw [← h2] at hql
        have CQ := hide cq
        have H3 := hide h3
        have HQ := hide hq
        have hqs : q ≤ s.size := by omega
        clear hq cq h2 h3 hd
        go_wp2_with fail
        refine (unhide CQ _).mono ?_
        rintro e w3 ⟨rfl, rfl⟩
        by_cases hz : n2 = 0
        · have h3 : a3 = a1 := by rw [H3.out, if_pos hz]
          have H4 := hide h3
          have hzi : (n2 : Int) = 0 := by omega
          have HZ := hide hz
          clear h3 hz
          go_wp2_with fail
          go_meet
          case rel => exact ⟨by rw [H4.out], by rw [HZ.out]; rfl, rfl⟩
        · have h3 : a3 = q + n2 := by rw [H3.out, if_neg hz]
          have H4 := hide h3
          have hzi : (0 : Int) < (n2 : Int) := by omega
          clear h3 hz
          go_wp2_with fail
          go_meet
          case rel => exact ⟨by rw [H4.out]; rfl, rfl, rfl⟩
    case rest =>
      obtain ⟨rfl, rfl, rfl⟩ := hcut
      have hn1b : n1 ≤ s.size := by omega
      have hn2b : n2 ≤ s.size := by
        rw [HN2.out]
        split
        · rename_i h; rw [EDOT.out] at h; have := run_le s (a1 + 1) (hasAt_lt h); omega
        · omega
      cases hnb : noneB s
      · have hpv := HPV.out
        rw [if_neg (by rw [hnb]; simp)] at hpv
        rw [HNB.out] at hnb
        have hpos : ¬ (n1 : Int) + (n2 : Int) = 0 := by
          intro e
          have e1 : n1 = 0 := by omega
          have e2 : n2 = 0 := by omega
          rw [e1, e2] at hnb
          simp at hnb
        have HP := hide hpv
        obtain ⟨ee, eee⟩ : ∃ ee, ee = hasAt EE s a3 := ⟨_, rfl⟩
        have EEE := hide eee
        clear hpv hnb HNB HPV HN2 HA3 HA1 EDOT eee
        go_upto_region 11 with fail
        go_cut [60] (fun b wx => b = .bool ee ∧ wx = wc)
        case first =>
          by_cases hlt : a3 < s.size
          · have hi : (a3 : Int) < (s.size : Int) := by omega
            have h := has_EE hlt
            rw [← EEE.out] at h
            have HD := hide h
            clear h
            cases hx : ((s[a3].toNat : Int) == 101)
            · cases hy : ((s[a3].toNat : Int) == 69)
              · have hd : ee = false := by rw [HD.out, hx, hy]; rfl
                subst hd
                go_wp2_with fail
                go_meet
                case rel => exact ⟨rfl, rfl⟩
              · have hd : ee = true := by rw [HD.out, hx, hy]; rfl
                subst hd
                go_wp2_with fail
                go_meet
                case rel => exact ⟨rfl, rfl⟩
            · have hd : ee = true := by rw [HD.out, hx]; rfl
              subst hd
              go_wp2_with fail
              go_meet
              case rel => exact ⟨rfl, rfl⟩
          · have hi : ¬ (a3 : Int) < (s.size : Int) := by omega
            have hd : ee = false := by rw [EEE.out]; exact has_out hlt
            subst hd
            go_wp2_with fail
            go_meet
            case rel => exact ⟨rfl, rfl⟩
        case rest =>
          obtain ⟨rfl, rfl⟩ := hcut
          have hxn : expN s = if ee then run s (aFour s) else 0 := by unfold expN; rw [← EA3.out, ← EEE.out]
          have hln : lenV' s = if expN s = 0 then a3 else aFour s + expN s := by unfold lenV'; rw [← EA3.out]
          have ha4 : aFour s = a3 + 1 + (hasAt PM s (a3 + 1)).toNat := by unfold aFour; rw [← EA3.out]
          cases ee
          · have hx0 : expN s = 0 := hxn
            rw [if_pos hx0] at hln
            have hp := HP.out
            rw [if_pos hx0, hln] at hp
            have HP2 := hide hp
            clear hx0 hln hp hxn ha4 HP
            go_wp2_with fail
            refine bodyPost_ret (results_tmp5 rfl _ _ _) rfl ?_
            exact ⟨by rw [HP2.out]; rfl, rfl⟩
          · have hlt : a3 < s.size := hasAt_lt EEE.out.symm
            obtain ⟨q, hq⟩ : ∃ q, q = a3 + 1 := ⟨_, rfl⟩
            have hqi : (a3 : Int) + 1 = (q : Int) := by omega
            obtain ⟨k, hk⟩ : ∃ k, k = (hasAt PM s q).toNat := ⟨_, rfl⟩
            have hkn : k ≤ 1 := by rw [hk]; exact toNat_le _
            obtain ⟨r, hr⟩ : ∃ r, r = q + k := ⟨_, rfl⟩
            have hri : (q : Int) + (k : Int) = (r : Int) := by omega
            have ha4' : aFour s = r := by rw [ha4, hr, hk, hq]
            rw [ha4'] at hxn hln
            obtain ⟨n3, hn3⟩ : ∃ n3, n3 = run s r := ⟨_, rfl⟩
            have hx3 : expN s = n3 := by rw [hxn, hn3]; rfl
            rw [hx3] at hln
            have hp := HP.out
            rw [hx3, hln, ← hq] at hp
            have hrs : r ≤ s.size := by
              rw [hr, hk]
              cases h : hasAt PM s q
              · simp; omega
              · have := hasAt_lt h; simp; omega
            have h3l := run_le s r hrs
            rw [← hn3] at h3l
            have csg := fun w => rsign_any s q w
            have cdg := fun w => rdigits_any s r w (by omega) (by omega)
            rw [← hk] at csg
            rw [← hn3] at cdg
            have CSG := hide csg
            have CDG := hide cdg
            have HP2 := hide hp
            have hqb : q ≤ s.size := by omega
            clear hp hx3 hn3 ha4' hr hk hq hxn hln ha4 csg cdg HP EEE EA3
            go_wp2_with fail
            refine (unhide CSG _).mono ?_
            rintro e w3 ⟨rfl, rfl⟩
            go_wp2_with fail
            refine (unhide CDG _).mono ?_
            rintro e w4 ⟨rfl, rfl⟩
            clear CSG CDG
            by_cases hz : n3 = 0
            · have hp := HP2.out
              rw [if_pos hz, if_pos hz] at hp
              have HP3 := hide hp
              have hzi : (n3 : Int) = 0 := by omega
              clear hp hz HP2
              go_wp2_with fail
              refine bodyPost_ret (results_tmp5 rfl _ _ _) rfl ?_
              exact ⟨by rw [HP3.out]; rfl, rfl⟩
            · have hp := HP2.out
              rw [if_neg hz, if_neg hz] at hp
              have HP3 := hide hp
              have hzi : (0 : Int) < (n3 : Int) := by omega
              clear hp hz HP2
              go_wp2_with fail
              refine bodyPost_ret (results_tmp5 rfl _ _ _) rfl ?_
              exact ⟨by rw [HP3.out]; rfl, rfl⟩
      · have hpv := HPV.out
        rw [if_pos hnb] at hpv
        rw [HNB.out] at hnb
        have e1 : n1 = 0 := by simp at hnb; exact hnb.1
        have e2 : n2 = 0 := by simp at hnb; exact hnb.2
        have hz : (n1 : Int) + (n2 : Int) = 0 := by omega
        have HP := hide hpv
        clear hpv hnb HNB HPV HN2 HA3 HA1 EDOT e1 e2
        go_wp2_with fail
        refine bodyPost_ret (results_tmp5 rfl _ _ _) rfl ?_
        exact ⟨by rw [HP.out]; rfl, rfl⟩

theorem partsV_end (s : ByteArray) : ∃ a b c d, partsV s = #[.int .i64 a, .int .i64 b, .int .i64 c, .int .i64 d, .int .i64 (scanV s : Int)] := by
  unfold partsV scanV
  cases h : noneB s
  · exact ⟨_, _, _, _, rfl⟩
  · exact ⟨_, _, _, _, rfl⟩

set_option maxHeartbeats 1000000 in
theorem rscan_any (s : ByteArray) (w : World) (hs : s.size ≤ 4611686018427380000) :
    Calls Tryd.prog 17 #[.string s] w fun e w' => e = .returned (.int .i64 (scanV s : Int)) ∧ w' = w := by
  obtain ⟨a, b, c, d, hp⟩ := partsV_end s
  have cc := fun w => parts_any s w hs
  rw [hp] at cc
  have CC := hide cc
  clear cc hp
  go_enter Tryd.func17, Tryd.ntmps17
  go_wp2_with fail
  refine (unhide CC _).mono ?_
  rintro e w1 ⟨rfl, rfl⟩
  go_wp2_with fail
  go_ret
  exact ⟨rfl, rfl⟩

end Go.Proofs.YtcgmnmfglhbcgaaDoor
