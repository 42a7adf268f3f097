/- The texts that this proof stands on, part 6 of 6. -/
import Derived.Test.YtogmifomamgkpaaM5
import Derived.Test.YtogmifomamgkpaaM4
import Derived.Test.YtogmifomamgkpaaM1
import Derived.Deep.RegionHeld3
import Derived.OpenShut
import Derived.ChangeArms

/- The chapter's examples of areas. -/
namespace Go.Proofs.Ytogmifomamgkpaa
open Go.RowKit

set_option maxRecDepth 100000 in
set_option maxHeartbeats 4000000 in
theorem words8_any (s : ByteArray) (w : World) (hs : s.size ≤ 65536) (hm : MaxAt w) :
    Calls Try.prog 12 #[.string s] w fun e w' => Below w.heap.size w w' ∧ WordsR s e w' := by
  have hcv := Lib.run_convert_string_bytes (P := Try.prog) w 9 59 5 s Try.underlying9 Try.underlying59 Try.underlying5
  have ct := fun c => tokS_any s c w hs hm
  have CT := hide ct
  clear ct hm
  unfold WordsR
  cases ht : tokV s with
  | error x =>
    have HT := hide ht
    clear ht
    go_enter Try.func12, Try.ntmps12
    go_wp2_with fail
    refine Calls.mono (unhide CT _) ?_
    rintro e w1 ⟨hb, hr⟩
    rw [HT.out] at hr
    obtain ⟨xa, xe⟩ := x
    obtain rfl : e = _ := hr
    clear CT HT
    go_wp2_with fail
    go_ret
    exact ⟨hb, rfl⟩
  | ok l =>
    have HT := hide ht
    clear ht
    go_enter Try.func12, Try.ntmps12
    go_wp2_with fail
    refine Calls.mono (unhide CT _) ?_
    rintro e w1 ⟨hb, hr⟩
    rw [HT.out] at hr
    obtain ⟨v, rfl, hown⟩ := hr
    have hn : 0 < l.length := by
      have ht := HT.out
      unfold tokV at ht
      split at ht
      · cases ht
      · split at ht
        · cases ht
        · split at ht
          · cases ht
          · cases ht; simp
    have HX := hide (tks_own hown hn)
    obtain ⟨ao, cap, rfl⟩ : ∃ ao cap, v = .slice ao l.length cap := by
      rcases hown.2 with ⟨hv, h0⟩ | ⟨g, cap, cur, hv, _⟩
      · exact ⟨none, 0, by rw [h0]; exact hv⟩
      · exact ⟨_, _, hv⟩
    clear CT HT hown hn
    go_wp2_with fail
    go_ret
    exact ⟨hb, _, rfl, HX.out⟩

def aw1 : List Tk := [((6, 0), ⟨#[97, 32, 97, 32, 46]⟩, ⟨#[]⟩), ((6, 8), ⟨#[98, 32, 46, 32, 46, 46]⟩, ⟨#[]⟩), ((8, 16), ⟨#[]⟩, ⟨#[]⟩)]

theorem at1 : tokV ⟨#[34, 97, 32, 97, 32, 46, 34, 32, 34, 98, 32, 46, 32, 46, 46, 34]⟩ = .ok [(⟨6, ⟨#[97, 32, 97, 32, 46]⟩, ⟨#[]⟩⟩, 0), (⟨6, ⟨#[98, 32, 46, 32, 46, 46]⟩, ⟨#[]⟩⟩, 8), (⟨8, ⟨#[]⟩, ⟨#[]⟩⟩, 16)] := by kernel_rfl

def ar1 : List (List ByteArray) := [[⟨#[97]⟩, ⟨#[97]⟩, ⟨#[]⟩], [⟨#[98]⟩, ⟨#[]⟩, ⟨#[]⟩]]

theorem ard1 : readA aw1 0 = (ar1, 2, 0) := by decide +kernel

theorem arr1 : rectsA ar1 = [⟨⟨#[97]⟩, 0, 0, 1, 2, 2⟩, ⟨⟨#[98]⟩, 1, 0, 1, 1, 1⟩] := by kernel_rfl

def aw2 : List Tk := [((6, 0), ⟨#[97, 32, 98]⟩, ⟨#[]⟩), ((6, 6), ⟨#[98, 32, 97]⟩, ⟨#[]⟩), ((8, 11), ⟨#[]⟩, ⟨#[]⟩)]

theorem at2 : tokV ⟨#[34, 97, 32, 98, 34, 32, 34, 98, 32, 97, 34]⟩ = .ok [(⟨6, ⟨#[97, 32, 98]⟩, ⟨#[]⟩⟩, 0), (⟨6, ⟨#[98, 32, 97]⟩, ⟨#[]⟩⟩, 6), (⟨8, ⟨#[]⟩, ⟨#[]⟩⟩, 11)] := by kernel_rfl

theorem ard2 : readA aw2 0 = ([], 0, 50) := by decide +kernel

theorem as1 : Short aw1 := ⟨by decide, by decide⟩

theorem as2 : Short aw2 := ⟨by decide, by decide⟩

theorem txt_small {l : List Tk} (h : ∀ x ∈ l, x.2.1.size ≤ 900000) (i : Int) : (tkV l i).2.1.size ≤ 900000 := by
  unfold tkV
  split
  · exact Nat.le_of_ble_eq_true rfl
  · by_cases hi : i.toNat < l.length
    · rw [List.getD, List.getElem?_eq_getElem hi]
      exact h _ (List.getElem_mem hi)
    · rw [List.getD, List.getElem?_eq_none (by omega)]
      exact Nat.le_of_ble_eq_true rfl

theorem arOk : OkRs ar1 := ⟨by decide, by decide⟩

end Go.Proofs.Ytogmifomamgkpaa

/- The chapter's examples of areas, walked. -/
namespace Go.Proofs.Ytogmifomamgkpaa
open Go.RowKit

theorem aw1_small : ∀ x ∈ aw1, x.2.1.size ≤ 900000 := by decide

theorem aw2_small : ∀ x ∈ aw2, x.2.1.size ≤ 900000 := by decide

theorem words_a1 (w : World) (hm : MaxAt w) : Calls Try.prog 12 #[.string ⟨#[34, 97, 32, 97, 32, 46, 34, 32, 34, 98, 32, 46, 32, 46, 46, 34]⟩] w fun e w' => Below w.heap.size w w' ∧ ∃ v, e = .returned v ∧ Tks w' v aw1 := by
  refine (words8_any _ w (by decide) hm).mono ?_
  rintro e w' ⟨h1, h2⟩
  unfold WordsR at h2
  rw [at1] at h2
  exact ⟨h1, h2⟩

theorem words_a2 (w : World) (hm : MaxAt w) : Calls Try.prog 12 #[.string ⟨#[34, 97, 32, 98, 34, 32, 34, 98, 32, 97, 34]⟩] w fun e w' => Below w.heap.size w w' ∧ ∃ v, e = .returned v ∧ Tks w' v aw2 := by
  refine (words8_any _ w (by decide) hm).mono ?_
  rintro e w' ⟨h1, h2⟩
  unfold WordsR at h2
  rw [at2] at h2
  exact ⟨h1, h2⟩

theorem read_a1 (v : Value) (w : World) (h : Tks w v aw1) : Calls Try.prog 6 #[v, .int .i64 0] w fun e w' => Below w.heap.size w w' ∧ ∃ u, e = .returned (.tuple #[u, .int .i64 2, .int .i64 0]) ∧ Rws w' u ar1 := by
  have := read8_any aw1 0 v w h as1 (txt_small aw1_small)
  rw [ard1] at this
  exact this

theorem read_a2 (v : Value) (w : World) (h : Tks w v aw2) : Calls Try.prog 6 #[v, .int .i64 0] w fun e w' => Below w.heap.size w w' ∧ ∃ u, e = .returned (.tuple #[u, .int .i64 0, .int .i64 50]) ∧ Rws w' u [] := by
  have := read8_any aw2 0 v w h as2 (txt_small aw2_small)
  rw [ard2] at this
  exact this

theorem rects_a1 (v : Value) (w : World) (h : Rws w v ar1) : Calls Try.prog 11 #[v] w fun e w' => Below w.heap.size w w' ∧ ∃ g cap, e = .returned (.slice (some ⟨g, 0, none⟩) 2 cap) ∧ w'.cell? ⟨g, 0, none⟩ = some (.string ⟨#[97]⟩) ∧ w'.cell? ⟨g, 1, none⟩ = some (.int .i64 0) ∧ w'.cell? ⟨g, 2, none⟩ = some (.int .i64 0) ∧ w'.cell? ⟨g, 3, none⟩ = some (.int .i64 1) ∧ w'.cell? ⟨g, 4, none⟩ = some (.int .i64 2) ∧ w'.cell? ⟨g, 5, none⟩ = some (.string ⟨#[98]⟩) ∧ w'.cell? ⟨g, 6, none⟩ = some (.int .i64 1) ∧ w'.cell? ⟨g, 7, none⟩ = some (.int .i64 0) ∧ w'.cell? ⟨g, 8, none⟩ = some (.int .i64 1) ∧ w'.cell? ⟨g, 9, none⟩ = some (.int .i64 1) := by
  have := rects8_any ar1 v w h arOk
  rw [arr1] at this
  refine this.mono ?_
  rintro e w' ⟨h1, u, rfl, hown⟩
  obtain ⟨g, cap, rfl, _⟩ := own_some8 hown (by simp)
  refine ⟨h1, g, cap, rfl, ?_⟩
  have hc := fun i (hi : i < 10) => hown.cellAt i (by simpa using hi)
  exact ⟨hc 0 (by omega), hc 1 (by omega), hc 2 (by omega), hc 3 (by omega), hc 4 (by omega), hc 5 (by omega), hc 6 (by omega), hc 7 (by omega), hc 8 (by omega), hc 9 (by omega)⟩

theorem tks_slice8 {w : World} {v : Value} {l : List Tk} (h : Tks w v l) : ∃ ao n cap, v = .slice ao n cap := by
  rcases h.val with ⟨_, ao, cap, h⟩ | ⟨b, off, cap, h, _⟩
  · exact ⟨_, _, _, h⟩
  · exact ⟨_, _, _, h⟩

theorem rws_slice8 {w : World} {v : Value} {rs : List (List ByteArray)} (h : Rws w v rs) : ∃ ao n cap, v = .slice ao n cap := by
  rcases h.val with ⟨_, ao, cap, h⟩ | ⟨b, off, cap, h, _⟩
  · exact ⟨_, _, _, h⟩
  · exact ⟨_, _, _, h⟩

set_option maxRecDepth 100000 in
set_option maxHeartbeats 8000000 in
theorem lives8_any (w : World) (hm : MaxAt w) : Calls Try.prog 5 #[] w fun e w' => e = .returned (.bool true) ∧ Below w.heap.size w w' := by
  have C1 := hide (words_a1 w hm)
  have HM := hide hm
  clear hm
  go_enter Try.func5, Try.ntmps5
  go_wp2_with fail
  refine Calls.mono C1.out ?_
  rintro e wa ⟨ha, v, rfl, ht⟩
  have C2 := hide (read_a1 v wa ht)
  obtain ⟨ao, n0, cap, rfl⟩ := tks_slice8 ht
  have HA := hide ha
  clear ha ht C1
  go_wp2_with fail
  refine Calls.mono C2.out ?_
  rintro e wb ⟨hb, u, rfl, hr⟩
  have HB := hide ((HA.out).trans (hb.mono (HA.out).size))
  have C3 := hide (words_a2 wb ((HM.out).below HB.out))
  have HR := hide hr
  obtain ⟨ro, rn, rc, rfl⟩ := rws_slice8 hr
  clear hb hr C2 HA
  go_wp2_with fail
  refine Calls.mono C3.out ?_
  rintro e wc ⟨hc, v2, rfl, ht2⟩
  have C4 := hide (read_a2 v2 wc ht2)
  have HR2 := hide ((HR.out).below hc)
  have HC := hide ((HB.out).trans (hc.mono (HB.out).size))
  obtain ⟨ao2, n2, cap2, rfl⟩ := tks_slice8 ht2
  clear hc ht2 C3 HB HR
  go_wp2_with fail
  refine Calls.mono C4.out ?_
  rintro e wd ⟨hd, u2, rfl, hr2⟩
  have C5 := hide (rects_a1 _ wd ((HR2.out).below hd))
  have HD := hide ((HC.out).trans (hd.mono (HC.out).size))
  obtain ⟨ro2, rn2, rc2, rfl⟩ := rws_slice8 hr2
  clear hd hr2 C4 HC HR2
  go_wp2_with fail
  refine Calls.mono C5.out ?_
  rintro e we ⟨he, g, gc, rfl, c0, c1, c2, c3, c4, c5, c6, c7, c8, c9⟩
  have HE := hide ((HD.out).trans (he.mono (HD.out).size))
  clear he C5 HD
  go_wp2_with fail
  go_ret
  exact ⟨rfl, HE.out⟩

end Go.Proofs.Ytogmifomamgkpaa

/- ref08.Same of rows that are the same, walked. -/
namespace Go.Proofs.Ytogmifomamgkpaa
open Go.RowKit

theorem rws_row8 {w : World} {ao : Option Addr} {n cap : Nat} {rs : List (List ByteArray)} (h : Rws w (.slice ao n cap) rs) (hn : n = rs.length) : ∀ i, i < rs.length → ∃ b off ua uc, ao = some ⟨b, off, none⟩ ∧ b < w.heap.size ∧ w.cell? ⟨b, off + i, none⟩ = some (.slice ua (rs.getD i []).length uc) ∧ Strs w (.slice ua (rs.getD i []).length uc) (rs.getD i []) := fun i hi => by
  subst hn
  rcases h.val with ⟨h0, _⟩ | ⟨b, off, cap', hv, hlt, hc⟩
  · rw [h0] at hi; simp at hi
  · simp only [Value.slice.injEq] at hv
    obtain ⟨u, h1, h2⟩ := hc i (rs.getD i []) (by rw [List.getD, List.getElem?_eq_getElem hi]; rfl)
    obtain ⟨ua, uc, rfl⟩ := h2.slice
    exact ⟨b, off, ua, uc, hv.1, hlt, h1, h2⟩

theorem strs_cell8 {w : World} {ao : Option Addr} {cap n : Nat} {xs : List ByteArray} (h : Strs w (.slice ao n cap) xs) : ∀ i, i < xs.length → ∃ b off, ao = some ⟨b, off, none⟩ ∧ b < w.heap.size ∧ w.cell? ⟨b, off + i, none⟩ = some (.string (xs.getD i ByteArray.empty)) := fun i hi => by
  rcases h.val with ⟨h0, _⟩ | ⟨b, off, cap', hv, hlt, hc⟩
  · rw [h0] at hi; simp at hi
  · simp only [Value.slice.injEq] at hv
    exact ⟨b, off, hv.1, hlt, hc i _ (by rw [List.getD, List.getElem?_eq_getElem hi]; rfl)⟩

set_option maxRecDepth 100000 in
set_option maxHeartbeats 16000000 in
theorem rsame_eq (rs : List (List ByteArray)) (va vb : Value) (w : World) (ha : Rws w va rs) (hb : Rws w vb rs) (ho : OkRs rs) :
    Calls Try.prog 8 #[va, vb] w fun e w' => e = .returned (.bool true) ∧ Below w.heap.size w w' := by
  obtain ⟨aa, ca, rfl⟩ : ∃ ao cap, va = .slice ao rs.length cap := by
    rcases ha.val with ⟨h0, ao, cap, h⟩ | ⟨b, off, cap, h, _⟩
    · exact ⟨ao, cap, by rw [h0]; exact h⟩
    · exact ⟨_, _, h⟩
  obtain ⟨ab, cb, rfl⟩ : ∃ ao cap, vb = .slice ao rs.length cap := by
    rcases hb.val with ⟨h0, ao, cap, h⟩ | ⟨b, off, cap, h, _⟩
    · exact ⟨ao, cap, by rw [h0]; exact h⟩
    · exact ⟨_, _, h⟩
  have hra := rws_row8 ha rfl
  have hrb := rws_row8 hb rfl
  have hlr : ∀ i, i < rs.length → (rs.getD i []).length ≤ 1000000 := fun i hi => by rw [List.getD, List.getElem?_eq_getElem hi]; exact (ho.2 _ (List.getElem_mem hi)).1
  have hl := ho.1
  have HRA := hide hra
  have HRB := hide hrb
  have HLR := hide hlr
  obtain ⟨N, hN⟩ : ∃ N, N = rs.length := ⟨_, rfl⟩
  rw [← hN] at HRA HRB HLR hl ⊢
  clear hra hrb hlr ha hb ho hN
  go_enter Try.func8, Try.ntmps8
  go_wp2_with fail
  go_loopw [5] (fun i wr => ∃ k : Nat, k ≤ N ∧ i = .int .i64 (k : Int) ∧ Hid (Below w.heap.size w wr)) (fun i _ => (N - intOf i).toNat)
  case atStart => exact ⟨0, Nat.zero_le _, by go_num, hide (Below.refl _ _)⟩
  case round =>
    obtain ⟨k, hk, rfl, HB⟩ := hrel
    by_cases hkl : k < N
    · have hki : (k : Int) < (N : Int) := by omega
      obtain ⟨b1, o1, u1, v1, rfl, hb1, c1, s1⟩ := (HRA.out) k hkl
      obtain ⟨b2, o2, u2, v2, rfl, hb2, c2, s2⟩ := (HRB.out) k hkl
      have hlk := (HLR.out) k hkl
      generalize rs.getD k [] = row at *
      have d1 := ((HB.out).cell (p := ⟨b1, o1 + k, none⟩) hb1).trans c1
      have d2 := ((HB.out).cell (p := ⟨b2, o2 + k, none⟩) hb2).trans c2
      have HS1 := hide (strs_cell8 s1)
      have HS2 := hide (strs_cell8 s2)
      obtain ⟨M, hM⟩ : ∃ M, M = row.length := ⟨_, rfl⟩
      rw [← hM] at HS1 HS2 hlk c1 c2 d1 d2
      have HC1 := hide c1
      have HC2 := hide c2
      clear s1 s2 hM HRA HRB HLR c1 c2
      go_wp2_with fail
      go_region
      go_wp2_with fail
      have HB0 := hide (HB.out).drew
      clear d1 d2
      go_loopw [6] (fun i wx => ∃ j : Nat, j ≤ M ∧ i = .int .i64 (j : Int) ∧ Hid (Below w.heap.size w wx)) (fun i _ => (M - intOf i).toNat)
      case atStart => exact ⟨0, Nat.zero_le _, by go_num, HB0⟩
      case round =>
        clear HB HB0
        obtain ⟨j, hj, rfl, HB⟩ := hrel
        have d1 := ((HB.out).cell (p := ⟨b1, o1 + k, none⟩) hb1).trans HC1.out
        have d2 := ((HB.out).cell (p := ⟨b2, o2 + k, none⟩) hb2).trans HC2.out
        by_cases hjl : j < M
        · have hji : (j : Int) < (M : Int) := by omega
          obtain ⟨b3, o3, rfl, hb3, c3⟩ := (HS1.out) j hjl
          obtain ⟨b4, o4, rfl, hb4, c4⟩ := (HS2.out) j hjl
          have d3 := ((HB.out).cell (p := ⟨b3, o3 + j, none⟩) hb3).trans c3
          have d4 := ((HB.out).cell (p := ⟨b4, o4 + j, none⟩) hb4).trans c4
          generalize row.getD j ByteArray.empty = s at *
          clear c3 c4
          go_wp2_with fail
          go_region
          go_wp2_with fail
          go_roundw
          case rel => exact ⟨j + 1, by omega, by go_num, hide (HB.out).drew⟩
          case measure => simp [intOf]; omega
        · have hji : ¬ (j : Int) < (M : Int) := by omega
          go_wp2_with fail
          go_roundw
          case rel => exact ⟨k + 1, by omega, by go_num, HB⟩
          case measure => simp [intOf]; omega
    · have hki : ¬ (k : Int) < (N : Int) := by omega
      go_wp2_with fail
      go_ret
      exact ⟨rfl, HB.out⟩

end Go.Proofs.Ytogmifomamgkpaa

/- ref08.row, walked. -/
namespace Go.Proofs.Ytogmifomamgkpaa
open Go.RowKit

set_option maxRecDepth 100000 in
set_option maxHeartbeats 8000000 in
theorem rrow_any (s : ByteArray) (n m : Nat) (w : World) (hn : n ≤ 64) (hs : s.size ≤ 900000) :
    Calls Try.prog 19 #[.string s, .int .i64 (n : Int), .int .i64 (m : Int)] w fun e w' => Below w.heap.size w w' ∧ NextE w (rowV n m s) e w' := by
  have cc := rcells_any s w (by omega)
  have hcv : ∀ xs, cellsV s 0 = some xs → (∀ x ∈ xs, x.size ≤ s.size) ∧ xs.length ≤ s.size + 1 := fun xs h => cells_small (s := s) (s.size + 1) 0 (xs := xs) h
  have hrv : rowV n m s = match cellsV s 0 with
    | none => .error 50
    | some cs => if n = 64 ∨ 64 < cs.length ∨ cs.any longB = true then .error 52 else if cs.length = 0 ∨ (0 < n ∧ ¬ cs.length = m) then .error 50 else .ok cs := rfl
  generalize rowV n m s = RV at *
  generalize cellsV s 0 = CV at *
  have CC := hide cc
  have HRV := hide hrv
  have HCV := hide hcv
  clear cc hrv hcv
  go_enter Try.func19, Try.ntmps19
  go_wp2_with fail
  refine Calls.mono CC.out ?_
  rintro e w1 ⟨hb, hE⟩
  clear CC
  cases CV with
  | none =>
    obtain rfl : e = .returned (.tuple #[.slice none 0 0, .bool false]) := hE
    have hv := HRV.out
    have HV := hide hv
    clear hv HRV HCV
    go_wp2_with fail
    go_ret2
    exact ⟨hb, by rw [HV.out]; rfl⟩
  | some cs =>
    obtain ⟨u, rfl, hown⟩ := hE
    have hst := strs_own hown
    have hc2 := (HCV.out) cs rfl
    obtain ⟨ua, uc, rfl⟩ := hst.slice
    have hv := HRV.out
    simp only at hv
    have hcl : cs.length ≤ 900001 := by omega
    have HO := hide hown
    have HC := hide (strs_cell8 hst)
    have hsx : ∀ j, j < cs.length → (cs.getD j ByteArray.empty).size ≤ 900000 := fun j hj => by rw [List.getD, List.getElem?_eq_getElem hj]; have := hc2.1 _ (List.getElem_mem hj); simp only [Option.getD_some]; omega
    have hany : ∀ j, j < cs.length → 64 < (cs.getD j ByteArray.empty).size → cs.any longB = true := fun j hj h => by
      rw [List.getD, List.getElem?_eq_getElem hj] at h
      exact List.any_eq_true.2 ⟨_, List.getElem_mem hj, by unfold longB; simpa using h⟩
    have hnot : (∀ j, j < cs.length → ¬ 64 < (cs.getD j ByteArray.empty).size) → cs.any longB = false := fun h => by
      rw [List.any_eq_false]
      intro x hx
      obtain ⟨j, hj, rfl⟩ := List.getElem_of_mem hx
      have := h j hj
      rw [List.getD, List.getElem?_eq_getElem hj] at this
      unfold longB
      simpa using this
    have HSX := hide hsx
    have HANY := hide hany
    have HNOT := hide hnot
    have HB := hide hb
    clear hst hc2 HRV HCV hown hsx hany hnot hb
    obtain ⟨q, hq⟩ : ∃ q, q = cs.length := ⟨_, rfl⟩
    rw [← hq] at hv hcl HC HSX HANY HNOT ⊢
    have HQ := hide hq
    have HV0 := hide hv
    clear hq hv
    by_cases hn4 : n = 64
    · have hnb : (64 : Int) ≤ (n : Int) := by omega
      have HV : Hid (RV = .error 52) := hide (by rw [HV0.out, if_pos (.inl hn4)])
      clear HV0 hn4
      go_wp2_with fail
      go_ret2
      exact ⟨HB.out, by rw [HV.out]; rfl⟩
    · have hnb : ¬ (64 : Int) ≤ (n : Int) := by omega
      by_cases hq6 : 64 < q
      · have hqb : (64 : Int) < (q : Int) := by omega
        have HV : Hid (RV = .error 52) := hide (by rw [HV0.out, if_pos (.inr (.inl hq6))])
        clear HV0 hn4 hq6
        go_wp2_with fail
        go_ret2
        exact ⟨HB.out, by rw [HV.out]; rfl⟩
      · have hqb : ¬ (64 : Int) < (q : Int) := by omega
        go_wp2_with fail
        go_loopw [10] (fun i wr => ∃ k : Nat, k ≤ q ∧ i = .int .i64 (k : Int) ∧ Hid (∀ j, j < k → ¬ 64 < (cs.getD j ByteArray.empty).size) ∧ wr = w1) (fun i _ => (q - intOf i).toNat)
        case atStart => exact ⟨0, Nat.zero_le _, by go_num, hide (fun j hj => by omega), rfl⟩
        case round =>
          obtain ⟨k, hk, rfl, HP, hwr⟩ := hrel
          subst wr
          by_cases hkl : k < q
          · have hki : (k : Int) < (q : Int) := by omega
            obtain ⟨b, off, rfl, hbl, cx⟩ := (HC.out) k hkl
            have hsz := (HSX.out) k hkl
            have ha := (HANY.out) k hkl
            have hp2 : ¬ 64 < (cs.getD k ByteArray.empty).size → Hid (∀ j, j < k + 1 → ¬ 64 < (cs.getD j ByteArray.empty).size) := fun hf => hide (fun j hj => by
              by_cases e : j = k
              · rw [e]; exact hf
              · exact HP.out j (by omega))
            generalize cs.getD k ByteArray.empty = z at *
            have HA := hide ha
            have HP2 := hide hp2
            clear ha hp2
            by_cases hz : 64 < z.size
            · have hzb : (64 : Int) < (z.size : Int) := by omega
              have HV : Hid (RV = .error 52) := hide (by rw [HV0.out, if_pos (.inr (.inr ((HA.out) hz)))])
              clear HV0 hz HA HP2 HP
              go_wp2_with fail
              go_ret2
              exact ⟨HB.out, by rw [HV.out]; rfl⟩
            · have hzb : ¬ (64 : Int) < (z.size : Int) := by omega
              have HP3 := (HP2.out) hz
              clear hz HA HP2 HP
              go_wp2_with fail
              go_roundw
              case rel => exact ⟨k + 1, by omega, by go_num, HP3, by first | rfl | trivial⟩
              case measure => simp [intOf]; omega
          · have hki : ¬ (k : Int) < (q : Int) := by omega
            have hnl := (HNOT.out) (fun j hj => HP.out j (by omega))
            have HV1 : Hid (RV = if q = 0 ∨ (0 < n ∧ ¬ q = m) then .error 50 else .ok cs) := hide (by rw [HV0.out, if_neg (by rw [hnl]; simp; omega)])
            clear HV0 HP hnl hk hkl HNOT HANY HSX HC
            by_cases hq0 : q = 0
            · have hqz : ((q : Int) == 0) = true := by rw [beq_iff_eq]; omega
              have HV : Hid (RV = .error 50) := hide (by rw [HV1.out, if_pos (.inl hq0)])
              clear HV1 hq0
              go_wp2_with fail
              go_ret2
              exact ⟨HB.out, by rw [HV.out]; rfl⟩
            · have hqz : ((q : Int) == 0) = false := by rw [beq_eq_false_iff_ne]; omega
              by_cases hnp : 0 < n
              · have hnpb : (0 : Int) < (n : Int) := by omega
                by_cases hqm : q = m
                · have hqmb : ((q : Int) == (m : Int)) = true := by rw [beq_iff_eq]; omega
                  have HV : Hid (RV = .ok cs) := hide (by rw [HV1.out, if_neg (by omega)])
                  clear HV1 hq0 hnp hqm
                  go_wp2_with fail
                  go_ret2
                  exact ⟨HB.out, by rw [HV.out]; exact ⟨_, rfl, by have := HO.out; rw [← HQ.out] at this ⊢; exact this⟩⟩
                · have hqmb : ((q : Int) == (m : Int)) = false := by rw [beq_eq_false_iff_ne]; omega
                  have HV : Hid (RV = .error 50) := hide (by rw [HV1.out, if_pos (.inr ⟨hnp, hqm⟩)])
                  clear HV1 hq0 hnp hqm
                  go_wp2_with fail
                  go_ret2
                  exact ⟨HB.out, by rw [HV.out]; rfl⟩
              · have hnpb : ¬ (0 : Int) < (n : Int) := by omega
                have HV : Hid (RV = .ok cs) := hide (by rw [HV1.out, if_neg (by omega)])
                clear HV1 hq0 hnp
                go_wp2_with fail
                go_ret2
                exact ⟨HB.out, by rw [HV.out]; exact ⟨_, rfl, by have := HO.out; rw [← HQ.out] at this ⊢; exact this⟩⟩

end Go.Proofs.Ytogmifomamgkpaa

/- ref08.first, walked. -/
namespace Go.Proofs.Ytogmifomamgkpaa
open Go.RowKit

def cellA (rs : List (List ByteArray)) (i k : Nat) : ByteArray := (rs.getD i []).getD k ByteArray.empty

/-- Is a cell the first one of its name? -/
def frstP (rs : List (List ByteArray)) (r c : Nat) : Prop := ∀ i k, (i < r ∧ k < (rs.getD i []).length ∨ i = r ∧ k < c) → cellA rs i k ≠ cellA rs r c

set_option maxRecDepth 100000 in
set_option maxHeartbeats 16000000 in
theorem rfirst_any (rs : List (List ByteArray)) (r c : Nat) (v : Value) (w : World) (h : Rws w v rs) (ho : OkRs rs) (hr : r < rs.length) (hc : c < (rs.getD r []).length) :
    Calls Try.prog 38 #[v, .int .i64 (r : Int), .int .i64 (c : Int)] w fun e w' => Below w.heap.size w w' ∧ ∃ B, e = .returned (.bool B) ∧ (B = true ↔ frstP rs r c) := by
  obtain ⟨ao, cap, rfl⟩ : ∃ ao cap, v = .slice ao rs.length cap := by
    rcases h.val with ⟨h0, ao, cap, h⟩ | ⟨b, off, cap, h, _⟩
    · exact ⟨ao, cap, by rw [h0]; exact h⟩
    · exact ⟨_, _, h⟩
  have hra := rws_row8 h rfl
  have hlr : ∀ i, i < rs.length → (rs.getD i []).length ≤ 1000000 := fun i hi => by rw [List.getD, List.getElem?_eq_getElem hi]; exact (ho.2 _ (List.getElem_mem hi)).1
  have hl := ho.1
  obtain ⟨b, off, ur, cr, rfl, hb, hcr, hsr⟩ := hra r hr
  obtain ⟨b9, o9, rfl, hb9, hc9⟩ := strs_cell8 hsr c hc
  have hlc := hlr r hr
  have hyes : (∀ i k, i < r → k < (rs.getD i []).length → cellA rs i k ≠ cellA rs r c) → (∀ k, k < c → cellA rs r k ≠ cellA rs r c) → frstP rs r c := fun h1 h2 i k hh => by
    rcases hh with ⟨hi, hk⟩ | ⟨rfl, hk⟩
    · exact h1 i k hi hk
    · exact h2 k hk
  have hnot : ∀ i k, (i < r ∧ k < (rs.getD i []).length ∨ i = r ∧ k < c) → cellA rs i k = cellA rs r c → ¬ frstP rs r c := fun i k hh he hf => hf i k hh he
  have hrow : ∀ i, i < rs.length → ∃ ua uc, w.cell? ⟨b, off + i, none⟩ = some (.slice ua (rs.getD i []).length uc) ∧ ∀ k, k < (rs.getD i []).length → ∃ b' o', ua = some ⟨b', o', none⟩ ∧ b' < w.heap.size ∧ w.cell? ⟨b', o' + k, none⟩ = some (.string (cellA rs i k)) := fun i hi => by
    obtain ⟨b', o', ua, uc, e, _, h1, h2⟩ := hra i hi
    simp only [Option.some.injEq, Addr.mk.injEq] at e
    obtain ⟨rfl, rfl, _⟩ := e
    exact ⟨ua, uc, h1, strs_cell8 h2⟩
  have hc9' : w.cell? ⟨b9, o9 + c, none⟩ = some (.string (cellA rs r c)) := hc9
  generalize cellA rs r c = S at *
  generalize frstP rs r c = FP at *
  have HROW := hide hrow
  have HYES := hide hyes
  have HNOT := hide hnot
  have HLR := hide hlr
  have HCR := hide hcr
  have HC9 := hide hc9'
  obtain ⟨N, hN⟩ : ∃ N, N = rs.length := ⟨_, rfl⟩
  obtain ⟨R9, hR9⟩ : ∃ R9, R9 = (rs.getD r []).length := ⟨_, rfl⟩
  have HR9 := hide hR9
  rw [← hN] at HROW HLR hl hr ⊢
  rw [← hR9] at HCR hc hlc
  clear hra hlr h ho hN hR9 hrow hyes hnot hcr hsr hc9 hc9'
  go_enter Try.func38, Try.ntmps38
  go_wp2_with fail
  go_loopw [7] (fun a wx => ∃ i : Nat, i ≤ r ∧ a = .int .i64 (i : Int) ∧ Hid (∀ i' k', i' < i → k' < (rs.getD i' []).length → cellA rs i' k' ≠ S) ∧ Hid (Below w.heap.size w wx)) (fun a _ => (r + 1 - intOf a).toNat)
  case atStart => exact ⟨0, Nat.zero_le _, by go_num, hide (fun i' k' h => by omega), hide (Below.refl _ _)⟩
  case round =>
    obtain ⟨i, hi, rfl, HI, HB⟩ := hrel
    have hib : (i : Int) ≤ (r : Int) := by omega
    obtain ⟨ua, uc, hrw, hcl⟩ := (HROW.out) i (by omega)
    have hlk := (HLR.out) i (by omega)
    have HRW := hide hrw
    have HCL := hide hcl
    obtain ⟨M, hM⟩ : ∃ M, M = (rs.getD i []).length := ⟨_, rfl⟩
    have HM := hide hM
    rw [← hM] at HRW HCL hlk
    clear hrw hcl hM HROW HLR
    go_wp2_with fail
    go_loopw [8] (fun a wx => ∃ k : Nat, k ≤ M ∧ (i = r → k ≤ c) ∧ a = .int .i64 (k : Int) ∧ Hid (∀ k', k' < k → cellA rs i k' ≠ S) ∧ Hid (Below w.heap.size w wx)) (fun a _ => (M - intOf a).toNat)
    case atStart => exact ⟨0, Nat.zero_le _, fun _ => Nat.zero_le _, by go_num, hide (fun k' h => by omega), HB⟩
    case round =>
      clear HB
      obtain ⟨k, hk, hkc, rfl, HK, HB⟩ := hrel
      have d1 := ((HB.out).cell (p := ⟨b, off + i, none⟩) hb).trans HRW.out
      have d9 := ((HB.out).cell (p := ⟨b, off + r, none⟩) hb).trans HCR.out
      have d8 := ((HB.out).cell (p := ⟨b9, o9 + c, none⟩) hb9).trans HC9.out
      by_cases hkM : k < M
      · have hkb : (k : Int) < (M : Int) := by omega
        by_cases hir : i = r ∧ c ≤ k
        · have e1 : ((i : Int) == (r : Int)) = true := by rw [beq_iff_eq]; omega
          have e2 : (c : Int) ≤ (k : Int) := by omega
          have hfin : FP := (HYES.out) (fun i' k' h1 h2 => HI.out i' k' (by omega) h2) (fun k' h' => by rw [← hir.1]; exact HK.out k' (by omega))
          have HF := hide hfin
          clear hfin hir hkc HI HK HCL
          go_wp2_with fail
          go_ret
          exact ⟨HB.out, true, rfl, ⟨fun _ => HF.out, fun _ => rfl⟩⟩
        · obtain ⟨b3, o3, rfl, hb3, c3⟩ := (HCL.out) k hkM
          have d3 := ((HB.out).cell (p := ⟨b3, o3 + k, none⟩) hb3).trans c3
          have hin : i < r ∧ k < (rs.getD i []).length ∨ i = r ∧ k < c := by
            rw [← HM.out]
            omega
          have hno := (HNOT.out) i k hin
          have hnx : cellA rs i k ≠ S → Hid (∀ k', k' < k + 1 → cellA rs i k' ≠ S) := fun hne => hide (fun k' hk' => by
            by_cases e : k' = k
            · rw [e]; exact hne
            · exact HK.out k' (by omega))
          have hkc2 : i = r → k + 1 ≤ c := by omega
          have hrb : (r : Int) < (N : Int) := by omega
          have hib2 : (i : Int) < (N : Int) := by omega
          have hcb : (c : Int) < (R9 : Int) := by omega
          generalize cellA rs i k = s at *
          have HNO := hide hno
          have HNX := hide hnx
          have HKC := hide hkc2
          clear hno hnx c3 HK hkc hkc2 hin
          have hcase : ((i : Int) == (r : Int)) = false ∨ (((i : Int) == (r : Int)) = true ∧ ¬ (c : Int) ≤ (k : Int)) := by
            rcases eqk (i : Int) (r : Int) with ⟨h1, h2⟩ | ⟨h1, h2⟩
            · exact .inr ⟨h2, by omega⟩
            · exact .inl h2
          clear hir
          by_cases hss : s = S
          · have hnf := (HNO.out) hss
            subst hss
            have HNF := hide hnf
            clear hnf HNO HNX HKC
            rcases hcase with e1 | ⟨e1, e2⟩
            · go_wp2_with fail
              go_region
              go_wp2_with fail
              go_ret
              exact ⟨(HB.out).drew, false, rfl, ⟨fun h => absurd h (by decide), fun h => absurd h HNF.out⟩⟩
            · go_wp2_with fail
              go_region
              go_wp2_with fail
              go_ret
              exact ⟨(HB.out).drew, false, rfl, ⟨fun h => absurd h (by decide), fun h => absurd h HNF.out⟩⟩
          · have HK2 := (HNX.out) hss
            have hsn : ¬ s.toList = S.toList := fun e => hss (WideShapes.bytes_inj (by rw [← ByteArray.toList_eq, ← ByteArray.toList_eq]; exact e))
            have hsb : (s.toList == S.toList) = false := by rw [beq_eq_false_iff_ne]; exact hsn
            clear HNO HNX
            rcases hcase with e1 | ⟨e1, e2⟩
            · go_wp2_with fail
              go_region
              go_wp2_with fail
              go_roundw
              case rel => exact ⟨k + 1, by omega, HKC.out, by go_num, HK2, hide (HB.out).drew⟩
              case measure => simp [intOf]; omega
            · go_wp2_with fail
              go_region
              go_wp2_with fail
              go_roundw
              case rel => exact ⟨k + 1, by omega, HKC.out, by go_num, HK2, hide (HB.out).drew⟩
              case measure => simp [intOf]; omega
      · have hkb : ¬ (k : Int) < (M : Int) := by omega
        have hkM2 : k = M := by omega
        have hlt : i < r := by
          rcases Nat.lt_or_ge i r with h | h
          · exact h
          · have e : i = r := by omega
            have h1 := hkc e
            have h2 : M = R9 := by rw [HM.out, HR9.out, e]
            omega
        have HI2 : Hid (∀ i' k', i' < i + 1 → k' < (rs.getD i' []).length → cellA rs i' k' ≠ S) := hide (fun i' k' h1 h2 => by
          by_cases e : i' = i
          · subst e; exact HK.out k' (by rw [hkM2, HM.out]; exact h2)
          · exact HI.out i' k' (by omega) h2)
        clear hkM2 hkc HI HK HCL
        go_wp2_with fail
        go_roundw
        case rel => exact ⟨i + 1, by omega, by go_num, HI2, HB⟩
        case measure => simp [intOf]; omega

end Go.Proofs.Ytogmifomamgkpaa

/- Names' cells, one behind the other: what the regions tell of them. -/
namespace Go.Proofs.Ytogmifomamgkpaa
open Go.RowKit

abbrev Tri := Nat × Nat × ByteArray

def rowT (r : Nat) : Nat → List ByteArray → List Tri
  | _, [] => []
  | c, s :: t => (r, c, s) :: rowT r (c + 1) t

def trisF : Nat → List (List ByteArray) → List Tri
  | _, [] => []
  | r, row :: t => rowT r 0 row ++ trisF (r + 1) t

def stepT (acc : List RegD) (x : Tri) : List RegD := stepR acc (x.1 : Int) (x.2.1 : Int) x.2.2

theorem rowR_fold (r : Nat) : ∀ (l : List ByteArray) (acc : List RegD) (c : Nat), rowR (r : Int) acc c l = (rowT r c l).foldl stepT acc
  | [], _, _ => rfl
  | s :: t, acc, c => by
    unfold rowR rowT
    rw [List.foldl_cons]
    exact rowR_fold r t _ (c + 1)

theorem regsF_fold : ∀ (l : List (List ByteArray)) (acc : List RegD) (r : Nat), regsF acc r l = (trisF r l).foldl stepT acc
  | [], _, _ => rfl
  | row :: t, acc, r => by
    unfold regsF trisF
    rw [List.foldl_append, ← rowR_fold]
    exact regsF_fold t _ (r + 1)

theorem mem_rowT (r : Nat) : ∀ (l : List ByteArray) (c i k : Nat) (s : ByteArray), (i, k, s) ∈ rowT r c l ↔ i = r ∧ c ≤ k ∧ k < c + l.length ∧ l.getD (k - c) ByteArray.empty = s
  | [], c, i, k, s => by
    simp only [rowT, List.not_mem_nil, List.length_nil, false_iff]
    omega
  | x :: t, c, i, k, s => by
    unfold rowT
    rw [List.mem_cons, mem_rowT r t (c + 1) i k s]
    simp only [Prod.mk.injEq, List.length_cons]
    constructor
    · rintro (⟨rfl, rfl, rfl⟩ | ⟨h1, h2, h3, h4⟩)
      · exact ⟨rfl, Nat.le_refl _, by omega, by simp⟩
      · refine ⟨h1, by omega, by omega, ?_⟩
        rw [show k - c = (k - (c + 1)) + 1 by omega, List.getD_cons_succ]
        exact h4
    · rintro ⟨h1, h2, h3, h4⟩
      by_cases e : k = c
      · subst e
        left
        simp at h4
        exact ⟨h1, rfl, h4.symm⟩
      · right
        refine ⟨h1, by omega, by omega, ?_⟩
        rw [show k - c = (k - (c + 1)) + 1 by omega, List.getD_cons_succ] at h4
        exact h4

theorem mem_trisF : ∀ (l : List (List ByteArray)) (r i k : Nat) (s : ByteArray), (i, k, s) ∈ trisF r l ↔ r ≤ i ∧ i < r + l.length ∧ k < (l.getD (i - r) []).length ∧ cellA l (i - r) k = s
  | [], r, i, k, s => by
    simp only [trisF, List.not_mem_nil, List.length_nil, false_iff]
    omega
  | x :: t, r, i, k, s => by
    unfold trisF
    rw [List.mem_append, mem_rowT, mem_trisF t (r + 1) i k s]
    simp only [List.length_cons]
    constructor
    · rintro (⟨rfl, h2, h3, h4⟩ | ⟨h1, h2, h3, h4⟩)
      · refine ⟨Nat.le_refl _, by omega, by simpa using h3, ?_⟩
        simpa [cellA] using h4
      · have e : i - r = (i - (r + 1)) + 1 := by omega
        refine ⟨by omega, by omega, by rw [e, List.getD_cons_succ]; exact h3, ?_⟩
        unfold cellA
        rw [e, List.getD_cons_succ]
        exact h4
    · rintro ⟨h1, h2, h3, h4⟩
      by_cases e : i = r
      · subst e
        left
        refine ⟨rfl, Nat.zero_le _, by simpa using h3, by simpa [cellA] using h4⟩
      · right
        have e : i - r = (i - (r + 1)) + 1 := by omega
        unfold cellA at h4
        rw [e, List.getD_cons_succ] at h3 h4
        exact ⟨by omega, by omega, h3, h4⟩

theorem mem_tris0 {l : List (List ByteArray)} {i k : Nat} {s : ByteArray} : (i, k, s) ∈ trisF 0 l ↔ i < l.length ∧ k < (l.getD i []).length ∧ cellA l i k = s := by
  rw [mem_trisF]
  simp

theorem rowT_fst (r : Nat) : ∀ (l : List ByteArray) (c : Nat), ∀ t ∈ rowT r c l, t.1 = r
  | [], _, t, h => by simp [rowT] at h
  | x :: l, c, t, h => by
    unfold rowT at h
    rw [List.mem_cons] at h
    rcases h with rfl | h
    · rfl
    · exact rowT_fst r l (c + 1) t h

theorem trisF_fst : ∀ (l : List (List ByteArray)) (r : Nat), ∀ t ∈ trisF r l, r ≤ t.1
  | [], _, t, h => by simp [trisF] at h
  | x :: l, r, t, h => by
    unfold trisF at h
    rw [List.mem_append] at h
    rcases h with h | h
    · have := rowT_fst r x 0 t h; omega
    · have := trisF_fst l (r + 1) t h; omega

/-- Rows come one behind the other. -/
theorem trisF_up : ∀ (l : List (List ByteArray)) (r : Nat), (trisF r l).Pairwise (fun a b => a.1 ≤ b.1)
  | [], _ => List.Pairwise.nil
  | x :: l, r => by
    unfold trisF
    rw [List.pairwise_append]
    refine ⟨?_, trisF_up l (r + 1), fun a ha b hb => ?_⟩
    · apply List.pairwise_of_forall_mem_list
      intro a ha b hb
      rw [rowT_fst r x 0 a ha, rowT_fst r x 0 b hb]
      exact Nat.le_refl _
    · rw [rowT_fst r x 0 a ha]
      have := trisF_fst l (r + 1) b hb
      omega

def eqB (s z : ByteArray) : Bool := decide (z = s)

def cntT (L : List Tri) (s : ByteArray) : Nat := L.countP (fun t => eqB s t.2.2)

theorem cntT_snoc (L : List Tri) (t : Tri) (s : ByteArray) : cntT (L ++ [t]) s = cntT L s + if t.2.2 = s then 1 else 0 := by
  unfold cntT
  rw [List.countP_append, List.countP_singleton]
  unfold eqB
  simp

theorem cntT_no {L : List Tri} {s : ByteArray} (h : ∀ i k, (i, k, s) ∉ L) : cntT L s = 0 := by
  unfold cntT
  rw [List.countP_eq_zero]
  rintro ⟨i, k, z⟩ hm hz
  unfold eqB at hz
  simp at hz
  subst hz
  exact h i k hm

/-- What a region tells of the cells so far. -/
structure RegI (L : List Tri) (x : RegD) : Prop where
  ne : x.name.size ≠ 0
  lo : ∀ i k, (i, k, x.name) ∈ L → x.row ≤ (i : Int) ∧ (i : Int) < x.row + x.rows ∧ x.col ≤ (k : Int) ∧ (k : Int) < x.col + x.cols
  top : ∃ i k, (i, k, x.name) ∈ L ∧ (i : Int) = x.row
  bot : ∃ i k, (i, k, x.name) ∈ L ∧ (i : Int) + 1 = x.row + x.rows
  lef : ∃ i k, (i, k, x.name) ∈ L ∧ (k : Int) = x.col
  rig : ∃ i k, (i, k, x.name) ∈ L ∧ (k : Int) + 1 = x.col + x.cols
  cnt : x.cells = (cntT L x.name : Int)

theorem RegI.other {L : List Tri} {x : RegD} (h : RegI L x) {t : Tri} (ht : t.2.2 ≠ x.name) : RegI (L ++ [t]) x := by
  have key : ∀ i k, (i, k, x.name) ∈ L ++ [t] ↔ (i, k, x.name) ∈ L := fun i k => by
    rw [List.mem_append]
    constructor
    · rintro (h | h)
      · exact h
      · simp at h
        subst h
        exact absurd rfl ht
    · exact .inl
  refine ⟨h.ne, fun i k hm => h.lo i k ((key i k).1 hm), ?_, ?_, ?_, ?_, ?_⟩
  · obtain ⟨i, k, h1, h2⟩ := h.top; exact ⟨i, k, (key i k).2 h1, h2⟩
  · obtain ⟨i, k, h1, h2⟩ := h.bot; exact ⟨i, k, (key i k).2 h1, h2⟩
  · obtain ⟨i, k, h1, h2⟩ := h.lef; exact ⟨i, k, (key i k).2 h1, h2⟩
  · obtain ⟨i, k, h1, h2⟩ := h.rig; exact ⟨i, k, (key i k).2 h1, h2⟩
  · rw [cntT_snoc, if_neg ht]; exact h.cnt

theorem RegI.add {L : List Tri} {x : RegD} (h : RegI L x) {r c : Nat} (hr : ∀ t ∈ L, t.1 ≤ r) : RegI (L ++ [(r, c, x.name)]) (addR x r c) := by
  obtain ⟨i1, k1, m1, e1⟩ := h.top
  obtain ⟨i2, k2, m2, e2⟩ := h.bot
  obtain ⟨i3, k3, m3, e3⟩ := h.lef
  obtain ⟨i4, k4, m4, e4⟩ := h.rig
  have l1 := h.lo i1 k1 m1
  have l2 := h.lo i2 k2 m2
  have l3 := h.lo i3 k3 m3
  have l4 := h.lo i4 k4 m4
  have q1 := hr _ m1
  have q2 := hr _ m2
  simp only at q1 q2
  have inl : ∀ {i k : Nat}, (i, k, x.name) ∈ L → (i, k, x.name) ∈ L ++ [(r, c, x.name)] := fun hm => List.mem_append_left _ hm
  have inr : (r, c, x.name) ∈ L ++ [(r, c, x.name)] := List.mem_append_right _ (by simp)
  refine ⟨h.ne, fun i k hm => ?_, ⟨i1, k1, inl m1, e1⟩, ⟨r, c, inr, ?_⟩, ?_, ?_, ?_⟩
  · rw [List.mem_append] at hm
    simp only [addR]
    rcases hm with hm | hm
    · have := h.lo i k hm
      have q := hr _ hm
      simp only at q
      omega
    · simp only [List.mem_singleton, Prod.mk.injEq] at hm
      obtain ⟨rfl, rfl, _⟩ := hm
      omega
  · simp only [addR]; omega
  · simp only [addR]
    by_cases hc : x.col ≤ (c : Int)
    · exact ⟨i3, k3, inl m3, by omega⟩
    · exact ⟨r, c, inr, by omega⟩
  · simp only [addR]
    by_cases hc : (c : Int) + 1 ≤ x.col + x.cols
    · exact ⟨i4, k4, inl m4, by omega⟩
    · exact ⟨r, c, inr, by omega⟩
  · show x.cells + 1 = (cntT (L ++ [(r, c, x.name)]) x.name : Int)
    rw [cntT_snoc, if_pos rfl, h.cnt]
    rfl

theorem RegI.new {L : List Tri} {r c : Nat} {s : ByteArray} (hs : s.size ≠ 0) (hn : ∀ i k, (i, k, s) ∉ L) : RegI (L ++ [(r, c, s)]) (addR ⟨s, r, c, 0, 0, 0⟩ r c) := by
  have inr : (r, c, s) ∈ L ++ [(r, c, s)] := List.mem_append_right _ (by simp)
  refine ⟨hs, fun i k hm => ?_, ⟨r, c, inr, rfl⟩, ⟨r, c, inr, ?_⟩, ⟨r, c, inr, ?_⟩, ⟨r, c, inr, ?_⟩, ?_⟩
  · rw [List.mem_append] at hm
    rcases hm with hm | hm
    · exact absurd hm (hn i k)
    · simp only [List.mem_singleton, Prod.mk.injEq] at hm
      obtain ⟨rfl, rfl, _⟩ := hm
      simp only [addR]
      omega
  · simp only [addR]; omega
  · simp only [addR]; omega
  · simp only [addR]; omega
  · show (0 : Int) + 1 = (cntT (L ++ [(r, c, s)]) s : Int)
    rw [cntT_snoc, if_pos rfl, cntT_no hn]
    rfl

/-- The first cells of names, one behind the other. -/
def frsT (acc : List Tri) (t : Tri) : List Tri := if t.2.2.size = 0 ∨ acc.any (fun u => eqB t.2.2 u.2.2) = true then acc else acc ++ [t]

/-- What regions tell of the cells so far. -/
structure RegsI (L : List Tri) (acc : List RegD) : Prop where
  reg : ∀ j x, acc[j]? = some x → idxR acc x.name = some j ∧ RegI L x
  all : ∀ t ∈ L, t.2.2.size ≠ 0 → (idxR acc t.2.2).isSome = true
  ord : acc.map (fun x => (x.name, x.row)) = (L.foldl frsT []).map (fun t => (t.2.2, (t.1 : Int)))

theorem idxR_any : ∀ (acc : List RegD) (s : ByteArray), (idxR acc s).isSome = (acc.map (fun x => (x.name, x.row))).any (fun u => eqB s u.1)
  | [], s => rfl
  | x :: r, s => by
    unfold idxR
    simp only [List.map_cons, List.any_cons]
    rw [← idxR_any r s]
    unfold eqB
    by_cases h : x.name = s
    · simp [h]
    · simp [h]

theorem RegsI.step {L : List Tri} {acc : List RegD} (h : RegsI L acc) {t : Tri} (hr : ∀ u ∈ L, u.1 ≤ t.1) : RegsI (L ++ [t]) (stepT acc t) := by
  obtain ⟨r, c, s⟩ := t
  have hany : (L.foldl frsT []).any (fun u => eqB s u.2.2) = (idxR acc s).isSome := by
    rw [idxR_any, h.ord, List.any_map]
    rfl
  have hfr : (L ++ [(r, c, s)]).foldl frsT [] = if s.size = 0 ∨ (idxR acc s).isSome = true then L.foldl frsT [] else L.foldl frsT [] ++ [(r, c, s)] := by
    rw [List.foldl_append, List.foldl_cons, List.foldl_nil, ← hany]
    generalize L.foldl frsT [] = F
    rfl
  unfold stepT stepR
  simp only
  by_cases h0 : s.size = 0
  · rw [if_pos h0]
    refine ⟨fun j x hx => ⟨(h.reg j x hx).1, (h.reg j x hx).2.other (fun e => (h.reg j x hx).2.ne (by rw [← e]; exact h0))⟩, fun t ht hs => ?_, ?_⟩
    · rw [List.mem_append] at ht
      rcases ht with ht | ht
      · exact h.all t ht hs
      · simp only [List.mem_singleton] at ht
        subst ht
        exact absurd h0 hs
    · rw [hfr, if_pos (.inl h0)]
      exact h.ord
  · rw [if_neg h0]
    cases hi : idxR acc s with
    | some i =>
      simp only
      obtain ⟨y, hy, hyn⟩ := idxR_some hi
      have e : acc.getD i noReg = y := by rw [List.getD, hy]; rfl
      rw [e]
      have hset : ∀ s', idxR (acc.set i (addR y r c)) s' = idxR acc s' := fun s' => idxR_set acc i _ s' (fun x hx => by rw [hy] at hx; cases hx; rfl)
      refine ⟨fun j x hx => ?_, fun t ht hs => ?_, ?_⟩
      · rw [hset]
        rw [List.getElem?_set] at hx
        by_cases hij : i = j
        · subst hij
          have hlt : i < acc.length := (List.getElem?_eq_some_iff.1 hy).1
          rw [if_pos rfl, if_pos hlt] at hx
          cases hx
          refine ⟨by show idxR acc y.name = some i; rw [hyn]; exact hi, ?_⟩
          have := (h.reg i y hy).2.add (c := c) hr
          rw [hyn] at this
          exact this
        · rw [if_neg hij] at hx
          have := h.reg j x hx
          refine ⟨this.1, this.2.other (fun e => hij ?_)⟩
          have h1 := this.1
          rw [← e] at h1
          simp only at h1
          rw [hi] at h1
          exact Option.some.inj h1
      · rw [hset]
        rw [List.mem_append] at ht
        rcases ht with ht | ht
        · exact h.all t ht hs
        · simp only [List.mem_singleton] at ht
          subst ht
          rw [hi]
          rfl
      · rw [hfr, if_pos (.inr (by rw [hi]; rfl)), ← h.ord, List.map_set]
        apply List.ext_getElem?
        intro j
        rw [List.getElem?_set]
        by_cases hij : i = j
        · subst hij
          rw [if_pos rfl, List.getElem?_map, hy]
          have hlt : i < acc.length := (List.getElem?_eq_some_iff.1 hy).1
          rw [if_pos (by simpa using hlt)]
          rfl
        · rw [if_neg hij]
    | none =>
      simp only
      have hno : ∀ i k, (i, k, s) ∉ L := fun i k hm => by
        have := h.all _ hm h0
        simp only at this
        rw [hi] at this
        cases this
      have hsn := fun s' => idxR_snoc acc (addR ⟨s, r, c, 0, 0, 0⟩ r c) s'
      refine ⟨fun j x hx => ?_, fun t ht hs => ?_, ?_⟩
      · rw [hsn]
        rcases Nat.lt_or_ge j acc.length with hj | hj
        · rw [List.getElem?_append_left hj] at hx
          have := h.reg j x hx
          rw [this.1]
          refine ⟨rfl, this.2.other (fun e => ?_)⟩
          have h1 := this.1
          rw [← e] at h1
          simp only at h1
          rw [hi] at h1
          cases h1
        · rw [List.getElem?_append_right hj] at hx
          have hj0 : j - acc.length = 0 := by
            rcases Nat.eq_zero_or_pos (j - acc.length) with h | h
            · exact h
            · rw [List.getElem?_eq_none (by simp; omega)] at hx; cases hx
          rw [hj0] at hx
          simp only [List.getElem?_cons_zero, Option.some.injEq] at hx
          subst hx
          have hje : j = acc.length := by omega
          refine ⟨?_, RegI.new h0 hno⟩
          show (match idxR acc s with | some i => some i | none => if s = s then some acc.length else none) = some j
          rw [hi, hje]
          simp
      · rw [hsn]
        rw [List.mem_append] at ht
        rcases ht with ht | ht
        · have := h.all t ht hs
          cases hq : idxR acc t.2.2 with
          | none => rw [hq] at this; cases this
          | some q => rfl
        · simp only [List.mem_singleton] at ht
          subst ht
          simp only
          rw [hi]
          show (if s = s then some acc.length else none).isSome = true
          rw [if_pos rfl]
          rfl
      · rw [hfr, if_neg (by rw [hi]; simp [h0]), List.map_append, h.ord, List.map_append]
        rfl

theorem RegsI.go : ∀ (L2 L1 : List Tri) (acc : List RegD), RegsI L1 acc → (L1 ++ L2).Pairwise (fun a b => a.1 ≤ b.1) → RegsI (L1 ++ L2) (L2.foldl stepT acc)
  | [], L1, acc, h, _ => by simpa using h
  | t :: L2, L1, acc, h, hp => by
    have h1 := h.step (t := t) (fun u hu => by
      rw [List.pairwise_append] at hp
      exact hp.2.2 u hu t (by simp))
    have := RegsI.go L2 (L1 ++ [t]) _ h1 (by simpa using hp)
    simpa using this

theorem regsI_all (rs : List (List ByteArray)) : RegsI (trisF 0 rs) (regsF [] 0 rs) := by
  rw [regsF_fold]
  have := RegsI.go (trisF 0 rs) [] [] ⟨fun j x hx => by simp at hx, fun t ht => by simp at ht, rfl⟩ (by simpa using trisF_up rs 0)
  simpa using this

end Go.Proofs.Ytogmifomamgkpaa

/- Names that fill rectangles: both ways of asking tell the same. -/
namespace Go.Proofs.Ytogmifomamgkpaa
open Go.RowKit

def rowC (s : ByteArray) (row : List ByteArray) : Nat := row.countP (eqB s)

theorem cnt_rowT (r : Nat) (s : ByteArray) : ∀ (l : List ByteArray) (c : Nat), cntT (rowT r c l) s = rowC s l
  | [], _ => rfl
  | x :: t, c => by
    have ih := cnt_rowT r s t (c + 1)
    unfold cntT rowC at ih ⊢
    unfold rowT
    rw [List.countP_cons, List.countP_cons, ih]

theorem cnt_trisF (s : ByteArray) : ∀ (l : List (List ByteArray)) (r : Nat), cntT (trisF r l) s = (l.map (rowC s)).sum
  | [], _ => rfl
  | x :: t, r => by
    have ih := cnt_trisF s t (r + 1)
    have h1 := cnt_rowT r s x 0
    unfold trisF
    rw [List.map_cons, List.sum_cons, ← ih, ← h1]
    unfold cntT
    rw [List.countP_append]

theorem rowC_box (s : ByteArray) : ∀ (row : List ByteArray) (c C : Nat), (∀ k, k < row.length → row.getD k ByteArray.empty = s → c ≤ k ∧ k < c + C) → rowC s row ≤ C ∧ (C ≤ rowC s row → ∀ k, c ≤ k → k < c + C → k < row.length ∧ row.getD k ByteArray.empty = s)
  | [], c, C, _ => ⟨by simp [rowC], fun h k h1 h2 => by simp [rowC] at h; omega⟩
  | z :: t, c, C, h => by
    have e : rowC s (z :: t) = rowC s t + if z = s then 1 else 0 := by
      unfold rowC
      rw [List.countP_cons]
      unfold eqB
      simp
    rw [e]
    by_cases hz : z = s
    · have h0 := h 0 (by simp) (by simpa using hz)
      have ih := rowC_box s t 0 (C - 1) (fun k hk he => by
        have := h (k + 1) (by simp; omega) (by simpa using he)
        omega)
      rw [if_pos hz]
      refine ⟨by omega, fun hC k h1 h2 => ?_⟩
      cases k with
      | zero => exact ⟨by simp, by simpa using hz⟩
      | succ k =>
        have := ih.2 (by omega) k (by omega) (by omega)
        exact ⟨by simp; omega, by simpa using this.2⟩
    · rw [if_neg hz]
      by_cases hc : c = 0
      · have ih := rowC_box s t 0 (C - 1) (fun k hk he => by
          have := h (k + 1) (by simp; omega) (by simpa using he)
          omega)
        refine ⟨by omega, fun hC k h1 h2 => ?_⟩
        omega
      · have ih := rowC_box s t (c - 1) C (fun k hk he => by
          have := h (k + 1) (by simp; omega) (by simpa using he)
          omega)
        refine ⟨by omega, fun hC k h1 h2 => ?_⟩
        cases k with
        | zero => omega
        | succ k =>
          have := ih.2 (by omega) k (by omega) (by omega)
          exact ⟨by simp; omega, by simpa using this.2⟩

theorem sum_box (C : Nat) : ∀ (ns : List Nat) (r R : Nat), (∀ i, i < ns.length → ns.getD i 0 ≠ 0 → r ≤ i ∧ i < r + R) → (∀ n ∈ ns, n ≤ C) → ns.sum ≤ R * C ∧ (R * C ≤ ns.sum → 0 < C → ∀ i, r ≤ i → i < r + R → i < ns.length ∧ ns.getD i 0 = C)
  | [], r, R, _, _ => ⟨by simp, fun h hC i h1 h2 => by
      have h' : R * C = 0 := Nat.le_zero.1 (by simpa using h)
      rcases Nat.mul_eq_zero.1 h' with h | h
      · omega
      · omega⟩
  | n :: t, r, R, h, hC => by
    have hn : n ≤ C := hC n (by simp)
    have ht : ∀ m ∈ t, m ≤ C := fun m hm => hC m (by simp [hm])
    rw [List.sum_cons]
    by_cases hz : n = 0
    · by_cases hr : r = 0
      · have ih := sum_box C t 0 (R - 1) (fun i hi he => by
          have := h (i + 1) (by simp; omega) (by simpa using he)
          omega) ht
        cases R with
        | zero =>
          simp at ih ⊢
          refine ⟨⟨hz, ih⟩, fun _ i h1 h2 => by omega⟩
        | succ R =>
          simp only [Nat.add_sub_cancel] at ih
          rw [Nat.succ_mul]
          refine ⟨by omega, fun h1 h2 => ?_⟩
          omega
      · have ih := sum_box C t (r - 1) R (fun i hi he => by
          have := h (i + 1) (by simp; omega) (by simpa using he)
          omega) ht
        refine ⟨by omega, fun h1 h2 i h3 h4 => ?_⟩
        cases i with
        | zero => omega
        | succ i =>
          have := ih.2 (by omega) h2 i (by omega) (by omega)
          exact ⟨by simp; omega, by simpa using this.2⟩
    · have h0 := h 0 (by simp) (by simpa using hz)
      have ih := sum_box C t 0 (R - 1) (fun i hi he => by
        have := h (i + 1) (by simp; omega) (by simpa using he)
        omega) ht
      cases R with
      | zero => omega
      | succ R =>
        simp only [Nat.add_sub_cancel] at ih
        rw [Nat.succ_mul]
        refine ⟨by omega, fun h1 h2 i h3 h4 => ?_⟩
        cases i with
        | zero => exact ⟨by simp, by simp; omega⟩
        | succ i =>
          have := ih.2 (by omega) h2 i (by omega) (by omega)
          exact ⟨by simp; omega, by simpa using this.2⟩

theorem getD_map_rowC (s : ByteArray) (rs : List (List ByteArray)) (i : Nat) (hi : i < rs.length) : (rs.map (rowC s)).getD i 0 = rowC s (rs.getD i []) := by
  rw [List.getD, List.getD, List.getElem?_map, List.getElem?_eq_getElem hi]
  rfl

/-- A name all of whose cells are in a box has no more of them than the box; with as many each of the box is one. -/
theorem cnt_box {rs : List (List ByteArray)} {s : ByteArray} {r c h w : Nat} (hb : ∀ i k, (i, k, s) ∈ trisF 0 rs → r ≤ i ∧ i < r + h ∧ c ≤ k ∧ k < c + w) :
    cntT (trisF 0 rs) s ≤ h * w ∧ (h * w ≤ cntT (trisF 0 rs) s → 0 < w → ∀ i k, r ≤ i → i < r + h → c ≤ k → k < c + w → (i, k, s) ∈ trisF 0 rs) := by
  rw [cnt_trisF]
  have hrow : ∀ i, i < rs.length → rowC s (rs.getD i []) ≤ w ∧ (w ≤ rowC s (rs.getD i []) → ∀ k, c ≤ k → k < c + w → k < (rs.getD i []).length ∧ (rs.getD i []).getD k ByteArray.empty = s) := fun i hi =>
    rowC_box s _ c w (fun k hk he => by
      have := hb i k (mem_tris0.2 ⟨hi, hk, he⟩)
      omega)
  have hs := sum_box w (rs.map (rowC s)) r h (fun i hi hne => by
    have hi2 : i < rs.length := by simpa using hi
    rw [getD_map_rowC s rs i hi2] at hne
    have hpos : 0 < rowC s (rs.getD i []) := by omega
    unfold rowC at hpos
    rw [List.countP_pos_iff] at hpos
    obtain ⟨z, hz, he⟩ := hpos
    obtain ⟨k, hk, rfl⟩ := List.getElem_of_mem hz
    have he2 : (rs.getD i [])[k] = s := by unfold eqB at he; simpa using he
    have := hb i k (mem_tris0.2 ⟨hi2, hk, by unfold cellA; rw [List.getD, List.getElem?_eq_getElem hk]; exact he2⟩)
    omega) (fun n hn => by
    rw [List.mem_map] at hn
    obtain ⟨row, hr, rfl⟩ := hn
    obtain ⟨i, hi, rfl⟩ := List.getElem_of_mem hr
    have := (hrow i hi).1
    rw [List.getD, List.getElem?_eq_getElem hi] at this
    exact this)
  refine ⟨hs.1, fun h1 h2 i k h3 h4 h5 h6 => ?_⟩
  have hh := hs.2 h1 h2 i h3 h4
  have hi : i < rs.length := by simpa using hh.1
  rw [getD_map_rowC s rs i hi] at hh
  have := (hrow i hi).2 (by omega) k h5 h6
  exact mem_tris0.2 ⟨hi, this.1, this.2⟩

/-- A name's cells are a rectangle, all of it and nothing else. -/
structure FullR (rs : List (List ByteArray)) (s : ByteArray) (r c h w : Nat) : Prop where
  hp : 0 < h
  wp : 0 < w
  cell : ∀ i k, (i, k, s) ∈ trisF 0 rs ↔ r ≤ i ∧ i < r + h ∧ c ≤ k ∧ k < c + w
  cnt : cntT (trisF 0 rs) s = w * h

theorem full_of {rs : List (List ByteArray)} {x : RegD} (hx : RegI (trisF 0 rs) x) (hg : gapB x = false) : ∃ r c h w : Nat, x.row = r ∧ x.col = c ∧ x.rows = h ∧ x.cols = w ∧ FullR rs x.name r c h w := by
  obtain ⟨i1, k1, m1, e1⟩ := hx.top
  obtain ⟨i2, k2, m2, e2⟩ := hx.bot
  obtain ⟨i3, k3, m3, e3⟩ := hx.lef
  obtain ⟨i4, k4, m4, e4⟩ := hx.rig
  have l2 := hx.lo i2 k2 m2
  have l4 := hx.lo i4 k4 m4
  obtain ⟨h, hh⟩ : ∃ h : Nat, x.rows = h := ⟨x.rows.toNat, by omega⟩
  obtain ⟨w, hw⟩ : ∃ w : Nat, x.cols = w := ⟨x.cols.toNat, by omega⟩
  have hb : ∀ i k, (i, k, x.name) ∈ trisF 0 rs → i1 ≤ i ∧ i < i1 + h ∧ k3 ≤ k ∧ k < k3 + w := fun i k hm => by
    have := hx.lo i k hm
    omega
  have hc := cnt_box hb
  have hge : h * w ≤ cntT (trisF 0 rs) x.name := by
    unfold gapB at hg
    rw [hx.cnt, hh, hw] at hg
    simp only [decide_eq_false_iff_not, Int.not_lt] at hg
    exact_mod_cast hg
  have h0 : 0 < w := by omega
  refine ⟨i1, k3, h, w, e1.symm, e3.symm, hh, hw, by omega, h0, fun i k => ⟨hb i k, fun ⟨q1, q2, q3, q4⟩ => hc.2 hge h0 i k q1 q2 q3 q4⟩, ?_⟩
  rw [Nat.mul_comm w h]
  omega

/-- How far a name goes on to the right, and down. -/
def RunR (rs : List (List ByteArray)) (r c w : Nat) : Prop := (∀ j, j < w → c + j < (rs.getD r []).length ∧ cellA rs r (c + j) = cellA rs r c) ∧ ¬ (c + w < (rs.getD r []).length ∧ cellA rs r (c + w) = cellA rs r c)

def RunD (rs : List (List ByteArray)) (r c h : Nat) : Prop := (∀ j, j < h → r + j < rs.length ∧ cellA rs (r + j) c = cellA rs r c) ∧ ¬ (r + h < rs.length ∧ cellA rs (r + h) c = cellA rs r c)

structure FillsW (rs : List (List ByteArray)) (r c w h : Nat) : Prop where
  rr : RunR rs r c w
  rd : RunD rs r c h
  wi : ∀ i k, (i, k, cellA rs r c) ∈ trisF 0 rs → r ≤ i ∧ i < r + h ∧ c ≤ k ∧ k < c + w
  cnt : cntT (trisF 0 rs) (cellA rs r c) = w * h

def fillsP (rs : List (List ByteArray)) (r c : Nat) : Prop := ∃ w h, FillsW rs r c w h

theorem RunR.uniq {rs : List (List ByteArray)} {r c w w' : Nat} (h : RunR rs r c w) (h' : RunR rs r c w') : w = w' := by
  rcases Nat.lt_trichotomy w w' with e | e | e
  · exact absurd (h'.1 w e) h.2
  · exact e
  · exact absurd (h.1 w' e) h'.2

theorem RunD.uniq {rs : List (List ByteArray)} {r c w w' : Nat} (h : RunD rs r c w) (h' : RunD rs r c w') : w = w' := by
  rcases Nat.lt_trichotomy w w' with e | e | e
  · exact absurd (h'.1 w e) h.2
  · exact e
  · exact absurd (h.1 w' e) h'.2

/-- All rows have as many cells. -/
def Even8 (rs : List (List ByteArray)) : Prop := ∃ M, ∀ i, i < rs.length → (rs.getD i []).length = M

theorem FullR.fills {rs : List (List ByteArray)} {s : ByteArray} {r c h w : Nat} (he : Even8 rs) (hf : FullR rs s r c h w) : cellA rs r c = s ∧ FillsW rs r c w h := by
  obtain ⟨M, hM⟩ := he
  have hp := hf.hp
  have wp := hf.wp
  have h0 := mem_tris0.1 ((hf.cell r c).2 ⟨Nat.le_refl _, by omega, Nat.le_refl _, by omega⟩)
  have hs := h0.2.2
  refine ⟨hs, ⟨fun j hj => ?_, fun hh => ?_⟩, ⟨fun j hj => ?_, fun hh => ?_⟩, ?_, ?_⟩
  · have := mem_tris0.1 ((hf.cell r (c + j)).2 ⟨Nat.le_refl _, by omega, by omega, by omega⟩)
    exact ⟨this.2.1, by rw [this.2.2, hs]⟩
  · have := (hf.cell r (c + w)).1 (mem_tris0.2 ⟨h0.1, hh.1, by rw [hh.2, hs]⟩)
    omega
  · have := mem_tris0.1 ((hf.cell (r + j) c).2 ⟨by omega, by omega, Nat.le_refl _, by omega⟩)
    exact ⟨this.1, by rw [this.2.2, hs]⟩
  · have := (hf.cell (r + h) c).1 (mem_tris0.2 ⟨hh.1, by have := h0.2.1; rw [hM r h0.1] at this; rw [hM _ hh.1]; exact this, by rw [hh.2, hs]⟩)
    omega
  · rw [hs]; exact fun i k hm => (hf.cell i k).1 hm
  · rw [hs]; exact hf.cnt

def Bef (a b : Tri) : Prop := a.1 < b.1 ∨ a.1 = b.1 ∧ a.2.1 < b.2.1

theorem rowT_snd (r : Nat) : ∀ (l : List ByteArray) (c : Nat), ∀ t ∈ rowT r c l, c ≤ t.2.1
  | [], _, t, h => by simp [rowT] at h
  | x :: l, c, t, h => by
    unfold rowT at h
    rw [List.mem_cons] at h
    rcases h with rfl | h
    · exact Nat.le_refl _
    · have := rowT_snd r l (c + 1) t h; omega

theorem rowT_bef (r : Nat) : ∀ (l : List ByteArray) (c : Nat), (rowT r c l).Pairwise Bef
  | [], _ => List.Pairwise.nil
  | x :: l, c => by
    unfold rowT
    rw [List.pairwise_cons]
    exact ⟨fun b hb => .inr ⟨(rowT_fst r l (c + 1) b hb).symm, by have := rowT_snd r l (c + 1) b hb; show c < b.2.1; omega⟩, rowT_bef r l (c + 1)⟩

theorem trisF_bef : ∀ (l : List (List ByteArray)) (r : Nat), (trisF r l).Pairwise Bef
  | [], _ => List.Pairwise.nil
  | x :: l, r => by
    unfold trisF
    rw [List.pairwise_append]
    refine ⟨rowT_bef r x 0, trisF_bef l (r + 1), fun a ha b hb => .inl ?_⟩
    rw [rowT_fst r x 0 a ha]
    have := trisF_fst l (r + 1) b hb
    omega

theorem split_first (s : ByteArray) : ∀ (L : List Tri), (∃ t ∈ L, t.2.2 = s) → ∃ L1 t L2, L = L1 ++ t :: L2 ∧ t.2.2 = s ∧ ∀ u ∈ L1, u.2.2 ≠ s
  | [], ⟨t, h, _⟩ => by simp at h
  | x :: L, h => by
    by_cases hx : x.2.2 = s
    · exact ⟨[], x, L, rfl, hx, fun u hu => by simp at hu⟩
    · obtain ⟨t, ht, hs⟩ := h
      rw [List.mem_cons] at ht
      rcases ht with rfl | ht
      · exact absurd hs hx
      · obtain ⟨L1, t', L2, e, h1, h2⟩ := split_first s L ⟨t, ht, hs⟩
        refine ⟨x :: L1, t', L2, by rw [e]; rfl, h1, fun u hu => ?_⟩
        rw [List.mem_cons] at hu
        rcases hu with rfl | hu
        · exact hx
        · exact h2 u hu

theorem first_ex {rs : List (List ByteArray)} {s : ByteArray} (h : ∃ i k, (i, k, s) ∈ trisF 0 rs) : ∃ r c, (r, c, s) ∈ trisF 0 rs ∧ frstP rs r c := by
  obtain ⟨i, k, hm⟩ := h
  obtain ⟨L1, ⟨r, c, z⟩, L2, e, h1, h2⟩ := split_first s (trisF 0 rs) ⟨_, hm, rfl⟩
  simp only at h1
  subst h1
  have hin : (r, c, z) ∈ trisF 0 rs := by rw [e]; simp
  refine ⟨r, c, hin, fun i' k' hh he => ?_⟩
  have hc := (mem_tris0.1 hin)
  have hm' : (i', k', z) ∈ trisF 0 rs := mem_tris0.2 (by
    rcases hh with ⟨h3, h4⟩ | ⟨rfl, h4⟩
    · exact ⟨by omega, h4, by rw [he, hc.2.2]⟩
    · exact ⟨hc.1, by omega, by rw [he, hc.2.2]⟩)
  rw [e, List.mem_append, List.mem_cons] at hm'
  have hp := trisF_bef rs 0
  rw [e, List.pairwise_append, List.pairwise_cons] at hp
  rcases hm' with hm' | hm' | hm'
  · exact h2 _ hm' rfl
  · simp only [Prod.mk.injEq] at hm'
    omega
  · have := hp.2.1.1 _ hm'
    unfold Bef at this
    simp only at this
    omega

theorem first_full {rs : List (List ByteArray)} {s : ByteArray} {r c r0 c0 h w : Nat} (hf : FullR rs s r0 c0 h w) (hm : (r, c, s) ∈ trisF 0 rs) (h1 : frstP rs r c) : r = r0 ∧ c = c0 := by
  have hb := (hf.cell r c).1 hm
  have hp := hf.hp
  have wp := hf.wp
  have m := mem_tris0.1 hm
  have m0 := mem_tris0.1 ((hf.cell r0 c0).2 ⟨Nat.le_refl _, by omega, Nat.le_refl _, by omega⟩)
  have key : ¬ (r0 < r ∧ c0 < (rs.getD r0 []).length ∨ r0 = r ∧ c0 < c) := fun hh => h1 r0 c0 hh (by rw [m.2.2, m0.2.2])
  have := m0.2.1
  omega

theorem regs_name {rs : List (List ByteArray)} {i k : Nat} {s : ByteArray} (hm : (i, k, s) ∈ trisF 0 rs) (hs : s.size ≠ 0) : ∃ x ∈ regsF [] 0 rs, x.name = s ∧ RegI (trisF 0 rs) x := by
  have hr := regsI_all rs
  have := hr.all _ hm hs
  simp only at this
  cases hi : idxR (regsF [] 0 rs) s with
  | none => rw [hi] at this; cases this
  | some j =>
    obtain ⟨x, h1, h2⟩ := idxR_some hi
    exact ⟨x, List.mem_of_getElem? h1, h2, (hr.reg j x h1).2⟩

theorem filled_iff {rs : List (List ByteArray)} (he : Even8 rs) : filledV rs = true ↔ ∀ r c, r < rs.length → c < (rs.getD r []).length → (cellA rs r c).size ≠ 0 → frstP rs r c → fillsP rs r c := by
  have hfv : filledV rs = true ↔ ∀ x ∈ regsF [] 0 rs, gapB x = false := by
    unfold filledV
    rw [Bool.not_eq_true', List.any_eq_false]
    exact ⟨fun h x hx => by have := h x hx; simpa using this, fun h x hx => by rw [h x hx]; simp⟩
  rw [hfv]
  constructor
  · intro h r c hr hc hs h1
    have hm : (r, c, cellA rs r c) ∈ trisF 0 rs := mem_tris0.2 ⟨hr, hc, rfl⟩
    obtain ⟨x, hx, hn, hi⟩ := regs_name hm hs
    obtain ⟨r0, c0, h0, w0, _, _, _, _, hf⟩ := full_of hi (h x hx)
    rw [hn] at hf
    obtain ⟨rfl, rfl⟩ := first_full hf hm h1
    exact ⟨w0, h0, (hf.fills he).2⟩
  · intro h x hx
    obtain ⟨j, hj⟩ := List.getElem?_of_mem hx
    have hi := ((regsI_all rs).reg j x hj).2
    obtain ⟨i1, k1, m1, e1⟩ := hi.top
    obtain ⟨r, c, hm, h1⟩ := first_ex ⟨i1, k1, m1⟩
    have m := mem_tris0.1 hm
    obtain ⟨w, hh, hf⟩ := h r c m.1 m.2.1 (by rw [m.2.2]; exact hi.ne) h1
    have hwi := hf.wi
    have hcn := hf.cnt
    rw [m.2.2] at hwi hcn
    obtain ⟨i2, k2, m2, e2⟩ := hi.bot
    obtain ⟨i3, k3, m3, e3⟩ := hi.lef
    obtain ⟨i4, k4, m4, e4⟩ := hi.rig
    have b1 := hwi _ _ m1
    have b2 := hwi _ _ m2
    have b3 := hwi _ _ m3
    have b4 := hwi _ _ m4
    have l2 := hi.lo _ _ m2
    have l4 := hi.lo _ _ m4
    unfold gapB
    rw [decide_eq_false_iff_not, hi.cnt, hcn, Int.not_lt]
    have q1 : x.rows ≤ (hh : Int) := by omega
    have q2 : x.cols ≤ (w : Int) := by omega
    have q3 : 0 ≤ x.cols := by omega
    calc x.rows * x.cols ≤ (hh : Int) * x.cols := Int.mul_le_mul_of_nonneg_right q1 q3
      _ ≤ (hh : Int) * (w : Int) := Int.mul_le_mul_of_nonneg_left q2 (by omega)
      _ = ((w * hh : Nat) : Int) := by rw [Int.mul_comm]; rfl

end Go.Proofs.Ytogmifomamgkpaa

/- ref08.fills, walked. -/
namespace Go.Proofs.Ytogmifomamgkpaa
open Go.RowKit

/-- The cells ahead of a place. -/
def pfx (rs : List (List ByteArray)) (r c : Nat) : List Tri := trisF 0 (rs.take r) ++ rowT r 0 ((rs.getD r []).take c)

theorem rowT_app (r : Nat) : ∀ (a b : List ByteArray) (c : Nat), rowT r c (a ++ b) = rowT r c a ++ rowT r (c + a.length) b
  | [], b, c => by simp [rowT]
  | x :: a, b, c => by
    simp only [List.cons_append, rowT, rowT_app r a b (c + 1), List.length_cons]
    rw [show c + 1 + a.length = c + (a.length + 1) by omega]

theorem trisF_app : ∀ (a b : List (List ByteArray)) (r : Nat), trisF r (a ++ b) = trisF r a ++ trisF (r + a.length) b
  | [], b, r => by simp [trisF]
  | x :: a, b, r => by
    simp only [List.cons_append, trisF, trisF_app a b (r + 1), List.length_cons, List.append_assoc]
    rw [show r + 1 + a.length = r + (a.length + 1) by omega]

theorem pfx_zero (rs : List (List ByteArray)) : pfx rs 0 0 = [] := by simp [pfx, trisF, rowT]

theorem pfx_step {rs : List (List ByteArray)} {r c : Nat} (hc : c < (rs.getD r []).length) : pfx rs r (c + 1) = pfx rs r c ++ [(r, c, cellA rs r c)] := by
  unfold pfx
  rw [List.take_add_one, List.getElem?_eq_getElem hc, rowT_app, ← List.append_assoc, List.length_take, Nat.min_eq_left (by omega)]
  unfold cellA
  rw [List.getD_eq_getElem?_getD (l := rs.getD r []), List.getElem?_eq_getElem hc]
  simp [rowT]

theorem pfx_row {rs : List (List ByteArray)} {r : Nat} (hr : r < rs.length) : pfx rs (r + 1) 0 = pfx rs r (rs.getD r []).length := by
  have e : rs.getD r [] = rs[r] := by rw [List.getD, List.getElem?_eq_getElem hr]; rfl
  unfold pfx
  rw [List.take_add_one, List.getElem?_eq_getElem hr, trisF_app, List.length_take, Nat.min_eq_left (by omega), List.take_length, e]
  simp [trisF, rowT]

theorem pfx_end (rs : List (List ByteArray)) : pfx rs rs.length 0 = trisF 0 rs := by
  unfold pfx
  rw [List.take_length]
  simp [rowT]

theorem mem_pfx {rs : List (List ByteArray)} {r c i k : Nat} {s : ByteArray} (hr : r < rs.length) (hc : c ≤ (rs.getD r []).length) : (i, k, s) ∈ pfx rs r c ↔ (i < r ∧ k < (rs.getD i []).length ∨ i = r ∧ k < c) ∧ cellA rs i k = s := by
  have hg : ∀ i, i < r → (rs.take r).getD i [] = rs.getD i [] := fun i hi => by
    rw [List.getD, List.getD, List.getElem?_take_of_lt hi]
  unfold pfx
  rw [List.mem_append, mem_tris0, mem_rowT]
  simp only [List.length_take, Nat.zero_le, true_and, Nat.zero_add, Nat.sub_zero]
  constructor
  · rintro (⟨h1, h2, h3⟩ | ⟨rfl, h2, h3⟩)
    · have hi : i < r := by omega
      unfold cellA at h3
      rw [hg i hi] at h2 h3
      exact ⟨.inl ⟨hi, h2⟩, h3⟩
    · have hk : k < c := by omega
      refine ⟨.inr ⟨rfl, hk⟩, ?_⟩
      unfold cellA
      rw [List.getD, List.getElem?_take_of_lt hk] at h3
      exact h3
  · rintro ⟨⟨h1, h2⟩ | ⟨rfl, h2⟩, h3⟩
    · left
      unfold cellA at h3 ⊢
      rw [hg i h1]
      exact ⟨by omega, h2, h3⟩
    · right
      refine ⟨rfl, by omega, ?_⟩
      rw [List.getD, List.getElem?_take_of_lt h2]
      exact h3

theorem cnt_pfx_le (s : ByteArray) (L : List Tri) : cntT L s ≤ L.length := List.countP_le_length

theorem pfx_len {rs : List (List ByteArray)} (hs : SmRs rs) : (trisF 0 rs).length ≤ 4096 := by
  have hrow : ∀ (l : List ByteArray) (r c : Nat), (rowT r c l).length = l.length := by
    intro l
    induction l with
    | nil => intro r c; rfl
    | cons x t ih => intro r c; simp [rowT, ih]
  have key : ∀ (l : List (List ByteArray)) (r : Nat), (∀ row ∈ l, row.length ≤ 64) → (trisF r l).length ≤ 64 * l.length := by
    intro l
    induction l with
    | nil => intro r _; simp [trisF]
    | cons x t ih =>
      intro r h
      have h1 := ih (r + 1) (fun row hr => h row (by simp [hr]))
      have h2 := h x (by simp)
      simp only [trisF, List.length_append, hrow, List.length_cons]
      omega
  have := key rs 0 (fun row hr => (hs.2 row hr).1)
  have := hs.1
  omega

theorem cnt_pfx_bd {rs : List (List ByteArray)} (hs : SmRs rs) {r c : Nat} (hr : r < rs.length) (s : ByteArray) : cntT (pfx rs r c) s ≤ 4096 := by
  have hsub : (pfx rs r c).length ≤ (trisF 0 rs).length := by
    have e : trisF 0 rs = trisF 0 (rs.take r) ++ (rowT r 0 (rs.getD r []) ++ trisF (r + 1) (rs.drop (r + 1))) := by
      have h1 : rs = rs.take r ++ (rs.getD r [] :: rs.drop (r + 1)) := by
        rw [List.getD, List.getElem?_eq_getElem hr]
        simp
      conv => lhs; rw [h1, trisF_app]
      rw [List.length_take, Nat.min_eq_left (by omega)]
      simp [trisF]
    rw [e]
    unfold pfx
    rw [List.length_append, List.length_append, List.length_append]
    have h3 : rowT r 0 (rs.getD r []) = rowT r 0 ((rs.getD r []).take c) ++ rowT r (0 + ((rs.getD r []).take c).length) ((rs.getD r []).drop c) := by
      rw [← rowT_app, List.take_append_drop]
    rw [h3, List.length_append]
    omega
  have := cnt_pfx_le s (pfx rs r c)
  have := pfx_len hs
  omega

/-- The answer is whether something holds. -/
def AnsB (P : Prop) (e : Ending) : Prop := ∃ B, e = .returned (.bool B) ∧ (B = true ↔ P)

set_option maxRecDepth 100000 in
set_option maxHeartbeats 16000000 in
theorem rfills_any (rs : List (List ByteArray)) (r c : Nat) (v : Value) (w : World) (h : Rws w v rs) (hs : SmRs rs) (he : Even8 rs) (hr : r < rs.length) (hc : c < (rs.getD r []).length) :
    Calls Try.prog 39 #[v, .int .i64 (r : Int), .int .i64 (c : Int)] w fun e w' => w' = w ∧ AnsB (fillsP rs r c) e := by
  obtain ⟨M, hM⟩ := he
  obtain ⟨ao, cap, rfl⟩ : ∃ ao cap, v = .slice ao rs.length cap := by
    rcases h.val with ⟨h0, ao, cap, h⟩ | ⟨b, off, cap, h, _⟩
    · exact ⟨ao, cap, by rw [h0]; exact h⟩
    · exact ⟨_, _, h⟩
  have hra := rws_row8 h rfl
  have hl := hs.1
  have hM64 : M ≤ 64 := by rw [← hM r hr, List.getD, List.getElem?_eq_getElem hr]; exact (hs.2 _ (List.getElem_mem hr)).1
  obtain ⟨b, off, ur, cr, rfl, hb, hcr, hsr⟩ := hra r hr
  have hrow : ∀ i, i < rs.length → ∃ ua uc, w.cell? ⟨b, off + i, none⟩ = some (.slice ua M uc) ∧ ∀ k, k < M → ∃ b' o', ua = some ⟨b', o', none⟩ ∧ w.cell? ⟨b', o' + k, none⟩ = some (.string (cellA rs i k)) := fun i hi => by
    obtain ⟨b', o', ua, uc, e, _, h1, h2⟩ := hra i hi
    simp only [Option.some.injEq, Addr.mk.injEq] at e
    obtain ⟨rfl, rfl, _⟩ := e
    have h3 := strs_cell8 h2
    rw [hM i hi] at h1 h3
    exact ⟨ua, uc, h1, fun k hk => by obtain ⟨x1, x2, x3, _, x4⟩ := h3 k hk; exact ⟨x1, x2, x3, x4⟩⟩
  rw [hM r hr] at hc
  have hnot1 : ∀ W H i k, RunR rs r c W → RunD rs r c H → i < rs.length → k < M → cellA rs i k = cellA rs r c → ¬ (r ≤ i ∧ i < r + H ∧ c ≤ k ∧ k < c + W) → ¬ fillsP rs r c := fun W H i k h1 h2 h3 h4 h5 h6 ⟨W', H', hf⟩ => by
    have := hf.wi i k (mem_tris0.2 ⟨h3, by rw [hM i h3]; exact h4, h5⟩)
    rw [hf.rr.uniq h1, hf.rd.uniq h2] at this
    exact h6 this
  have hend1 : ∀ W H, RunR rs r c W → RunD rs r c H → (∀ i k, i < rs.length → k < M → cellA rs i k = cellA rs r c → (r ≤ i ∧ i < r + H ∧ c ≤ k ∧ k < c + W)) → (cntT (trisF 0 rs) (cellA rs r c) = W * H ↔ fillsP rs r c) := fun W H h1 h2 h3 => by
    constructor
    · intro h4
      exact ⟨W, H, h1, h2, fun i k hm => by have := mem_tris0.1 hm; exact h3 i k this.1 (by have h9 := this.2.1; rw [hM i this.1] at h9; exact h9) this.2.2, h4⟩
    · rintro ⟨W', H', hf⟩
      rw [hf.cnt, hf.rr.uniq h1, hf.rd.uniq h2]
  have hrr : ∀ W, c + W ≤ M → (∀ j, j < W → cellA rs r (c + j) = cellA rs r c) → (c + W = M ∨ cellA rs r (c + W) ≠ cellA rs r c) → RunR rs r c W := fun W h1 h2 h3 =>
    ⟨fun j hj => ⟨by rw [hM r hr]; omega, h2 j hj⟩, fun ⟨q1, q2⟩ => by rw [hM r hr] at q1; rcases h3 with h3 | h3; omega; exact h3 q2⟩
  have hrd : ∀ H, r + H ≤ rs.length → (∀ j, j < H → cellA rs (r + j) c = cellA rs r c) → (r + H = rs.length ∨ cellA rs (r + H) c ≠ cellA rs r c) → RunD rs r c H := fun H h1 h2 h3 =>
    ⟨fun j hj => ⟨by omega, h2 j hj⟩, fun ⟨q1, q2⟩ => by rcases h3 with h3 | h3; omega; exact h3 q2⟩
  have hcnt : ∀ i k, i < rs.length → k < M → cntT (pfx rs i (k + 1)) (cellA rs r c) = cntT (pfx rs i k) (cellA rs r c) + if cellA rs i k = cellA rs r c then 1 else 0 := fun i k h1 h2 => by
    rw [pfx_step (by rw [hM i h1]; exact h2), cntT_snoc]
  have hcr2 : ∀ i, i < rs.length → cntT (pfx rs (i + 1) 0) (cellA rs r c) = cntT (pfx rs i M) (cellA rs r c) := fun i h1 => by rw [pfx_row h1, hM i h1]
  have hcb : ∀ i k, i < rs.length → k ≤ M → cntT (pfx rs i k) (cellA rs r c) ≤ 4096 := fun i k h1 _ => cnt_pfx_bd hs h1 _
  have hc0 : cntT (pfx rs 0 0) (cellA rs r c) = 0 := by rw [pfx_zero]; rfl
  have hce : cntT (pfx rs rs.length 0) (cellA rs r c) = cntT (trisF 0 rs) (cellA rs r c) := by rw [pfx_end]
  have hcb2 : cntT (trisF 0 rs) (cellA rs r c) ≤ 4096 := by have := cnt_pfx_le (cellA rs r c) (trisF 0 rs); have := pfx_len hs; omega
  generalize fillsP rs r c = FP at *
  obtain ⟨S, hS⟩ : ∃ S, S = cellA rs r c := ⟨_, rfl⟩
  rw [← hS] at hnot1 hend1 hrr hrd hcnt hcr2 hcb hc0 hce hcb2
  have HNOT := hide hnot1
  have HEND := hide hend1
  have HRR := hide hrr
  have HRD := hide hrd
  have HCNT := hide hcnt
  have HCR2 := hide hcr2
  have HCB := hide hcb
  have HC0 := hide hc0
  have HCE := hide hce
  have HROW := hide hrow
  have HS := hide hS
  generalize cntT (trisF 0 rs) S = CT at *
  obtain ⟨N, hN⟩ : ∃ N, N = rs.length := ⟨_, rfl⟩
  rw [← hN] at HNOT HEND HRD HCNT HCR2 HCB HCE HROW hl hr ⊢
  clear hra h hs hN hrow hnot1 hend1 hrr hrd hcnt hcr2 hcb hc0 hce hS hcr hsr hM
  obtain ⟨ua, uc, hcw, hck⟩ := (HROW.out) r hr
  obtain ⟨b9, o9, rfl, hc9⟩ := hck c hc
  rw [← HS.out] at hc9
  have HCK := hide hck
  have HC9 := hide hc9
  have hrb : (r : Int) < (N : Int) := by omega
  have hcb0 : (c : Int) < (M : Int) := by omega
  clear hck
  go_enter Try.func39, Try.ntmps39
  go_upto_block 0 with fail
  clear hc9
  go_cut [8] (fun a wx => ∃ k : Nat, a = .int .i64 (k : Int) ∧ k ≤ 64 ∧ Hid (RunR rs r c k) ∧ wx = w)
  case first =>
    go_wp2_with fail
    go_loopw [8] (fun a wx => ∃ k : Nat, c + k ≤ M ∧ a = .int .i64 (k : Int) ∧ Hid (∀ j, j < k → cellA rs r (c + j) = S) ∧ wx = w) (fun a _ => (M - intOf a).toNat)
    case atStart => exact ⟨0, by omega, by go_num, hide (fun j hj => by omega), by first | rfl | trivial⟩
    case round =>
      obtain ⟨k, hk, rfl, HK, hwr⟩ := hrel
      subst wr
      by_cases hkM : c + k < M
      · have e1 : (c : Int) + (k : Int) < (M : Int) := by omega
        obtain ⟨b8, o8, e8, hc8⟩ := (HCK.out) (c + k) hkM
        simp only [Option.some.injEq, Addr.mk.injEq] at e8
        obtain ⟨rfl, rfl, _⟩ := e8
        by_cases hz : cellA rs r (c + k) = S
        · have HK2 : Hid (∀ j, j < k + 1 → cellA rs r (c + j) = S) := hide (fun j hj => by
            by_cases e : j = k
            · rw [e]; exact hz
            · exact HK.out j (by omega))
          rw [hz] at hc8
          clear hz HK
          go_wp2_with fail
          go_roundw
          case rel => exact ⟨k + 1, by omega, by go_num, HK2, by first | rfl | trivial⟩
          case measure => simp [intOf]; omega
        · have HR := hide ((HRR.out) k (by omega) HK.out (.inr hz))
          generalize cellA rs r (c + k) = z at *
          have hzb : (z.toList == S.toList) = false := by rw [beq_eq_false_iff_ne]; exact fun e => hz (WideShapes.bytes_inj (by rw [← ByteArray.toList_eq, ← ByteArray.toList_eq]; exact e))
          clear hz HK
          go_wp2_with fail
          go_meet
          case rel => exact ⟨k, rfl, by omega, HR, by first | rfl | trivial⟩
      · have e1 : ¬ (c : Int) + (k : Int) < (M : Int) := by omega
        have HR := hide ((HRR.out) k (by omega) HK.out (.inl (by omega)))
        clear HK
        go_wp2_with fail
        go_meet
        case rel => exact ⟨k, rfl, by omega, HR, by first | rfl | trivial⟩
  case rest =>
    obtain ⟨W, rfl, hW, HRW, hwx⟩ := hcut
    subst wc
    go_upto_block 2 with fail
    go_cut [9] (fun a wx => ∃ k : Nat, a = .int .i64 (k : Int) ∧ k ≤ 64 ∧ Hid (RunD rs r c k) ∧ wx = w)
    case first =>
      go_wp2_with fail
      go_loopw [9] (fun a wx => ∃ k : Nat, r + k ≤ N ∧ a = .int .i64 (k : Int) ∧ Hid (∀ j, j < k → cellA rs (r + j) c = S) ∧ wx = w) (fun a _ => (N - intOf a).toNat)
      case atStart => exact ⟨0, by omega, by go_num, hide (fun j hj => by omega), by first | rfl | trivial⟩
      case round =>
        obtain ⟨k, hk, rfl, HK, hwr⟩ := hrel
        subst wr
        by_cases hkN : r + k < N
        · have e1 : (r : Int) + (k : Int) < (N : Int) := by omega
          obtain ⟨ux, vx, hcx, hkx⟩ := (HROW.out) (r + k) hkN
          obtain ⟨b8, o8, rfl, hc8⟩ := hkx c hc
          clear hkx
          by_cases hz : cellA rs (r + k) c = S
          · have HK2 : Hid (∀ j, j < k + 1 → cellA rs (r + j) c = S) := hide (fun j hj => by
              by_cases e : j = k
              · rw [e]; exact hz
              · exact HK.out j (by omega))
            rw [hz] at hc8
            clear hz HK
            go_wp2_with fail
            go_roundw
            case rel => exact ⟨k + 1, by omega, by go_num, HK2, by first | rfl | trivial⟩
            case measure => simp [intOf]; omega
          · have HR := hide ((HRD.out) k (by omega) HK.out (.inr hz))
            generalize cellA rs (r + k) c = z at *
            have hzb : (z.toList == S.toList) = false := by rw [beq_eq_false_iff_ne]; exact fun e => hz (WideShapes.bytes_inj (by rw [← ByteArray.toList_eq, ← ByteArray.toList_eq]; exact e))
            clear hz HK
            go_wp2_with fail
            go_meet
            case rel => exact ⟨k, rfl, by omega, HR, by first | rfl | trivial⟩
        · have e1 : ¬ (r : Int) + (k : Int) < (N : Int) := by omega
          have HR := hide ((HRD.out) k (by omega) HK.out (.inl (by omega)))
          clear HK
          go_wp2_with fail
          go_meet
          case rel => exact ⟨k, rfl, by omega, HR, by first | rfl | trivial⟩
    case rest =>
      obtain ⟨H, rfl, hH, HRH, hwx⟩ := hcut
      subst wc
      have hno := fun i k => (HNOT.out) W H i k HRW.out HRH.out
      have hen := (HEND.out) W H HRW.out HRH.out
      have HNO := hide hno
      have HEN := hide hen
      clear hno hen HNOT HEND HRW HRH HRR HRD HCK HC9 hcw HS
      go_wp2_with fail
      go_loopw [10, 11] (fun n a wx => ∃ i : Nat, i ≤ N ∧ a = .int .i64 (i : Int) ∧ n = .int .i64 (cntT (pfx rs i 0) S : Int) ∧ Hid (∀ i' k', i' < i → k' < M → cellA rs i' k' = S → (r ≤ i' ∧ i' < r + H ∧ c ≤ k' ∧ k' < c + W)) ∧ wx = w) (fun _ a _ => (N - intOf a).toNat)
      case atStart => exact ⟨0, by omega, by go_num, by rw [HC0.out]; rfl, hide (fun i' k' hj => by omega), by first | rfl | trivial⟩
      case round =>
        obtain ⟨i, hi, rfl, rfl, HI, hwr⟩ := hrel
        subst wr
        by_cases hiN : i < N
        · have e1 : (i : Int) < (N : Int) := by omega
          obtain ⟨ux, vx, hcx, hkx⟩ := (HROW.out) i hiN
          have HKX := hide hkx
          clear hkx
          go_wp2_with fail
          go_loopw [10, 12] (fun n a wx => ∃ k : Nat, k ≤ M ∧ a = .int .i64 (k : Int) ∧ n = .int .i64 (cntT (pfx rs i k) S : Int) ∧ Hid (∀ k', k' < k → cellA rs i k' = S → (r ≤ i ∧ i < r + H ∧ c ≤ k' ∧ k' < c + W)) ∧ wx = w) (fun _ a _ => (M - intOf a).toNat)
          case atStart => exact ⟨0, by omega, by go_num, rfl, hide (fun k' hj => by omega), by first | rfl | trivial⟩
          case round =>
            obtain ⟨k, hk, rfl, rfl, HK, hwr⟩ := hrel
            subst wr
            have hcb1 := (HCB.out) i k hiN hk
            by_cases hkM : k < M
            · have e2 : (k : Int) < (M : Int) := by omega
              obtain ⟨b8, o8, rfl, hc8⟩ := (HKX.out) k hkM
              have hcs := (HCNT.out) i k hiN hkM
              by_cases hz : cellA rs i k = S
              · rw [if_pos hz] at hcs
                have HCS := hide hcs
                generalize cntT (pfx rs i k) S = q at *
                clear hcs
                by_cases hin : r ≤ i ∧ i < r + H ∧ c ≤ k ∧ k < c + W
                · have HK2 : Hid (∀ k', k' < k + 1 → cellA rs i k' = S → (r ≤ i ∧ i < r + H ∧ c ≤ k' ∧ k' < c + W)) := hide (fun k' hj h9 => by
                    by_cases e : k' = k
                    · rw [e]; exact hin
                    · exact HK.out k' (by omega) h9)
                  rw [hz] at hc8
                  have t1 : ¬ (i : Int) < (r : Int) := by omega
                  have t2 : ¬ (r : Int) + (H : Int) ≤ (i : Int) := by omega
                  have t3 : ¬ (k : Int) < (c : Int) := by omega
                  have t4 : ¬ (c : Int) + (W : Int) ≤ (k : Int) := by omega
                  clear hz HK hin
                  go_wp2_with fail
                  go_roundw
                  case rel => exact ⟨k + 1, by omega, by go_num, by rw [HCS.out]; go_num, HK2, by first | rfl | trivial⟩
                  case measure => simp [intOf]; omega
                · have hnf := (HNO.out) i k hiN hkM hz hin
                  have HNF := hide hnf
                  rw [hz] at hc8
                  clear hz HK hnf HCS
                  by_cases t1 : (i : Int) < (r : Int)
                  · clear hin
                    go_wp2_with fail
                    go_ret
                    exact ⟨rfl, false, rfl, fun h => absurd h (by decide), fun h => absurd h HNF.out⟩
                  · by_cases t2 : (r : Int) + (H : Int) ≤ (i : Int)
                    · clear hin
                      go_wp2_with fail
                      go_ret
                      exact ⟨rfl, false, rfl, fun h => absurd h (by decide), fun h => absurd h HNF.out⟩
                    · by_cases t3 : (k : Int) < (c : Int)
                      · clear hin
                        go_wp2_with fail
                        go_ret
                        exact ⟨rfl, false, rfl, fun h => absurd h (by decide), fun h => absurd h HNF.out⟩
                      · have t4 : (c : Int) + (W : Int) ≤ (k : Int) := by omega
                        clear hin
                        go_wp2_with fail
                        go_ret
                        exact ⟨rfl, false, rfl, fun h => absurd h (by decide), fun h => absurd h HNF.out⟩
              · rw [if_neg hz] at hcs
                have HCS := hide hcs
                have HK2 : Hid (∀ k', k' < k + 1 → cellA rs i k' = S → (r ≤ i ∧ i < r + H ∧ c ≤ k' ∧ k' < c + W)) := hide (fun k' hj h9 => by
                  by_cases e : k' = k
                  · rw [e] at h9; exact absurd h9 hz
                  · exact HK.out k' (by omega) h9)
                clear hcs
                generalize cntT (pfx rs i k) S = q at *
                generalize cellA rs i k = z at *
                have hzb : (z.toList == S.toList) = false := by rw [beq_eq_false_iff_ne]; exact fun e => hz (WideShapes.bytes_inj (by rw [← ByteArray.toList_eq, ← ByteArray.toList_eq]; exact e))
                clear hz HK
                go_wp2_with fail
                go_roundw
                case rel => exact ⟨k + 1, by omega, by go_num, by rw [HCS.out]; rfl, HK2, by first | rfl | trivial⟩
                case measure => simp [intOf]; omega
            · have e2 : ¬ (k : Int) < (M : Int) := by omega
              have hkm : k = M := by omega
              have HI2 : Hid (∀ i' k', i' < i + 1 → k' < M → cellA rs i' k' = S → (r ≤ i' ∧ i' < r + H ∧ c ≤ k' ∧ k' < c + W)) := hide (fun i' k' hj h8 h9 => by
                by_cases e : i' = i
                · rw [e] at h9 ⊢; exact HK.out k' (by omega) h9
                · exact HI.out i' k' (by omega) h8 h9)
              have HC2 : Hid (cntT (pfx rs (i + 1) 0) S = cntT (pfx rs i k) S) := hide (by rw [hkm]; exact (HCR2.out) i hiN)
              clear hkm HK HI
              go_wp2_with fail
              go_roundw
              case rel => exact ⟨i + 1, by omega, by go_num, by rw [HC2.out], HI2, by first | rfl | trivial⟩
              case measure => simp [intOf]; omega
        · have e1 : ¬ (i : Int) < (N : Int) := by omega
          have hiN2 : i = N := by omega
          have hfin := (HEN.out) (fun i' k' h1 h2 h3 => HI.out i' k' (by omega) h2 h3)
          have hcc : cntT (pfx rs i 0) S = CT := by rw [hiN2]; exact HCE.out
          have HF := hide hfin
          rw [hcc]
          have hmul : (W : Int) * (H : Int) ≤ 4096 := by
            have : W * H ≤ 64 * 64 := Nat.mul_le_mul hW hH
            exact_mod_cast this
          have hmul0 : 0 ≤ (W : Int) * (H : Int) := Int.mul_nonneg (by omega) (by omega)
          clear hcc hfin hiN2 HI HEN HNO
          go_wp2_with fail
          go_ret
          refine ⟨rfl, _, rfl, ?_⟩
          rw [← HF.out, beq_iff_eq]
          constructor
          · intro h; exact_mod_cast h
          · intro h; exact_mod_cast h

end Go.Proofs.Ytogmifomamgkpaa

/- ref08.filled, walked. -/
namespace Go.Proofs.Ytogmifomamgkpaa
open Go.RowKit

theorem ok_of_sm {rs : List (List ByteArray)} (h : SmRs rs) : OkRs rs :=
  ⟨by have := h.1; omega, fun r hr => ⟨by have := (h.2 r hr).1; omega, fun x hx => by have := (h.2 r hr).2 x hx; omega⟩⟩

set_option maxRecDepth 100000 in
set_option maxHeartbeats 16000000 in
theorem rfilled_any (rs : List (List ByteArray)) (v : Value) (w : World) (h : Rws w v rs) (hs : SmRs rs) (he : Even8 rs) :
    Calls Try.prog 20 #[v] w fun e w' => e = .returned (.bool (filledV rs)) ∧ Below w.heap.size w w' := by
  have hfi := filled_iff he
  have c1 := fun (w' : World) (hb : Below w.heap.size w w') r c hr hc => rfirst_any rs r c v w' (h.below hb) (ok_of_sm hs) hr hc
  have c2 := fun (w' : World) (hb : Below w.heap.size w w') r c hr hc => rfills_any rs r c v w' (h.below hb) hs he hr hc
  obtain ⟨M, hM⟩ := he
  obtain ⟨ao, cap, rfl⟩ : ∃ ao cap, v = .slice ao rs.length cap := by
    rcases h.val with ⟨h0, ao, cap, h⟩ | ⟨b, off, cap, h, _⟩
    · exact ⟨ao, cap, by rw [h0]; exact h⟩
    · exact ⟨_, _, h⟩
  have hra := rws_row8 h rfl
  have hl := hs.1
  have hM64 : 0 < rs.length → M ≤ 64 := fun hr => by rw [← hM 0 hr, List.getD, List.getElem?_eq_getElem hr]; exact (hs.2 _ (List.getElem_mem hr)).1
  have hrow : ∀ i, i < rs.length → ∃ b off ua uc, ao = some ⟨b, off, none⟩ ∧ b < w.heap.size ∧ w.cell? ⟨b, off + i, none⟩ = some (.slice ua M uc) ∧ ∀ k, k < M → ∃ b' o', ua = some ⟨b', o', none⟩ ∧ b' < w.heap.size ∧ w.cell? ⟨b', o' + k, none⟩ = some (.string (cellA rs i k)) := fun i hi => by
    obtain ⟨b', o', ua, uc, e, hb, h1, h2⟩ := hra i hi
    have h3 := strs_cell8 h2
    rw [hM i hi] at h1 h3
    exact ⟨b', o', ua, uc, e, hb, h1, h3⟩
  have c1' : ∀ (w' : World) (_ : Below w.heap.size w w') r c, r < rs.length → c < M → Calls Try.prog 38 #[.slice ao rs.length cap, .int .i64 (r : Int), .int .i64 (c : Int)] w' fun e w'' => Below w'.heap.size w' w'' ∧ ∃ B, e = .returned (.bool B) ∧ (B = true ↔ frstP rs r c) := fun w' hb r c hr hc => c1 w' hb r c hr (by rw [hM r hr]; exact hc)
  have c2' : ∀ (w' : World) (_ : Below w.heap.size w w') r c, r < rs.length → c < M → Calls Try.prog 39 #[.slice ao rs.length cap, .int .i64 (r : Int), .int .i64 (c : Int)] w' fun e w'' => w'' = w' ∧ AnsB (fillsP rs r c) e := fun w' hb r c hr hc => c2 w' hb r c hr (by rw [hM r hr]; exact hc)
  have hno : ∀ r c, r < rs.length → c < M → ¬ (cellA rs r c).size = 0 → frstP rs r c → ¬ fillsP rs r c → filledV rs = false := fun r c h1 h2 h3 h4 h5 => by
    cases hf : filledV rs
    · rfl
    · exact absurd (hfi.1 hf r c h1 (by rw [hM r h1]; exact h2) h3 h4) h5
  have hyes : (∀ r c, r < rs.length → c < M → ¬ (cellA rs r c).size = 0 → frstP rs r c → fillsP rs r c) → filledV rs = true := fun hh => hfi.2 (fun r c h1 h2 h3 h4 => hh r c h1 (by rw [hM r h1] at h2; exact h2) h3 h4)
  generalize filledV rs = FV at *
  have HROW := hide hrow
  have C1 := hide c1'
  have C2 := hide c2'
  have HNO := hide hno
  have HYES := hide hyes
  obtain ⟨N, hN⟩ : ∃ N, N = rs.length := ⟨_, rfl⟩
  rw [← hN] at HROW C1 C2 HNO HYES hl hM64 ⊢
  clear hfi c1 c2 c1' c2' hrow hno hyes hra h hs hM hN
  go_enter Try.func20, Try.ntmps20
  go_wp2_with fail
  go_loopw [3] (fun a wx => ∃ i : Nat, i ≤ N ∧ a = .int .i64 (i : Int) ∧ Hid (∀ r c, r < i → c < M → ¬ (cellA rs r c).size = 0 → frstP rs r c → fillsP rs r c) ∧ Hid (Below w.heap.size w wx)) (fun a _ => (N - intOf a).toNat)
  case atStart => exact ⟨0, Nat.zero_le _, by go_num, hide (fun r c h => by omega), hide (Below.refl _ _)⟩
  case round =>
    obtain ⟨i, hi, rfl, HI, HB⟩ := hrel
    by_cases hiN : i < N
    · have hib : (i : Int) < (N : Int) := by omega
      have hM4 := hM64 (by omega)
      obtain ⟨b, off, ua, uc, rfl, hb, hcr, hck⟩ := (HROW.out) i hiN
      have HCR := hide hcr
      have HCK := hide hck
      clear hcr hck
      go_wp2_with fail
      go_loopw [4] (fun a wx => ∃ k : Nat, k ≤ M ∧ a = .int .i64 (k : Int) ∧ Hid (∀ c, c < k → ¬ (cellA rs i c).size = 0 → frstP rs i c → fillsP rs i c) ∧ Hid (Below w.heap.size w wx)) (fun a _ => (M - intOf a).toNat)
      case atStart => exact ⟨0, Nat.zero_le _, by go_num, hide (fun k' h => by omega), HB⟩
      case round =>
        clear HB
        obtain ⟨k, hk, rfl, HK, HB⟩ := hrel
        have d1 := ((HB.out).cell (p := ⟨b, off + i, none⟩) hb).trans HCR.out
        by_cases hkM : k < M
        · have hkb : (k : Int) < (M : Int) := by omega
          obtain ⟨b3, o3, rfl, hb3, c3⟩ := (HCK.out) k hkM
          have d3 := ((HB.out).cell (p := ⟨b3, o3 + k, none⟩) hb3).trans c3
          have hnx : (¬ (cellA rs i k).size = 0 → frstP rs i k → fillsP rs i k) → Hid (∀ c, c < k + 1 → ¬ (cellA rs i c).size = 0 → frstP rs i c → fillsP rs i c) := fun hne => hide (fun k' hk' => by
            by_cases e : k' = k
            · rw [e]; exact hne
            · exact HK.out k' (by omega))
          have hno := (HNO.out) i k hiN hkM
          have c1 := (C1.out) wr HB.out i k hiN hkM
          have c2 := fun w' (hb : Below w.heap.size w w') => (C2.out) w' hb i k hiN hkM
          generalize cellA rs i k = s at *
          generalize frstP rs i k = FR at *
          generalize fillsP rs i k = FI at *
          have HNX := hide hnx
          have HNO2 := hide hno
          have CC1 := hide c1
          have CC2 := hide c2
          clear hnx hno c1 c2 c3 HK
          rcases empty_or8 s with rfl | ⟨hs1, hs2, hs3⟩
          · have HK2 := (HNX.out) (fun h => absurd rfl h)
            clear HNX HNO2 CC1 CC2
            go_wp2_with fail
            go_roundw
            case rel => exact ⟨k + 1, by omega, by go_num, HK2, HB⟩
            case measure => simp [intOf]; omega
          · go_wp2_with fail
            refine Calls.mono CC1.out ?_
            rintro e w1 ⟨hw1, B1, rfl, hB1⟩
            have HB1 := hide ((HB.out).trans (hw1.mono (HB.out).size))
            have cc2 := (CC2.out) w1 HB1.out
            have CC3 := hide cc2
            clear hw1 cc2 CC1 CC2 d1 d3
            cases B1
            · have hf : ¬ FR := fun h => by have := hB1.2 h; cases this
              have HK2 := (HNX.out) (fun _ h => absurd h hf)
              clear HNX HNO2 hB1 hf CC3
              go_wp2_with fail
              go_roundw
              case rel => exact ⟨k + 1, by omega, by go_num, HK2, HB1⟩
              case measure => simp [intOf]; omega
            · have hf : FR := hB1.1 rfl
              clear hB1
              go_wp2_with fail
              refine Calls.mono CC3.out ?_
              rintro e w2 ⟨hw2, B2, rfl, hB2⟩
              subst w2
              clear CC3
              cases B2
              · have hg : ¬ FI := fun h => by have := hB2.2 h; cases this
                have hv := (HNO2.out) hs2 hf hg
                have HV := hide hv
                clear hv hg hf hB2 HNX HNO2
                go_wp2_with fail
                go_ret
                exact ⟨by rw [HV.out]; rfl, HB1.out⟩
              · have HK2 := (HNX.out) (fun _ _ => hB2.1 rfl)
                clear HNX HNO2 hB2 hf
                go_wp2_with fail
                go_roundw
                case rel => exact ⟨k + 1, by omega, by go_num, HK2, HB1⟩
                case measure => simp [intOf]; omega
        · have hkb : ¬ (k : Int) < (M : Int) := by omega
          have HI2 : Hid (∀ r c, r < i + 1 → c < M → ¬ (cellA rs r c).size = 0 → frstP rs r c → fillsP rs r c) := hide (fun r c h1 h2 => by
            by_cases e : r = i
            · rw [e]; exact HK.out c (by omega)
            · exact HI.out r c (by omega) h2)
          clear HI HK
          go_wp2_with fail
          go_roundw
          case rel => exact ⟨i + 1, by omega, by go_num, HI2, HB⟩
          case measure => simp [intOf]; omega
    · have hib : ¬ (i : Int) < (N : Int) := by omega
      have hv := (HYES.out) (fun r c h1 h2 => HI.out r c (by omega) h2)
      have HV := hide hv
      clear hv HI
      go_wp2_with fail
      go_ret
      exact ⟨by rw [HV.out]; rfl, HB.out⟩

end Go.Proofs.Ytogmifomamgkpaa

/- Whether a number has a point or an exponent, whatever its bytes. -/
namespace Go.Proofs.Ytogmifomamgkpaa
open Go.RowKit

theorem enc_hi3 (r : Int) (h0 : 128 ≤ r) (hv : Lib.validRune r = true) : (∃ a b, Utf8.encode r = ⟨#[a, b]⟩ ∧ 128 ≤ b.toNat) ∨ (∃ a b c, Utf8.encode r = ⟨#[a, b, c]⟩ ∧ 128 ≤ c.toNat) ∨ (∃ a b c d, Utf8.encode r = ⟨#[a, b, c, d]⟩) := by
  have hr : Utf8.valid r = true := by
    unfold Lib.validRune at hv
    have := of_decide_eq_true hv
    unfold Utf8.valid
    simp
    omega
  unfold Utf8.encode
  rw [hr]
  simp only [if_true]
  rw [if_neg (by omega)]
  split
  · refine .inl ⟨_, _, rfl, ?_⟩
    simp
    omega
  · split
    · refine .inr (.inl ⟨_, _, _, rfl, ?_⟩)
      simp
      omega
    · exact .inr (.inr ⟨_, _, _, _, rfl⟩)

theorem hi_not3 {c : UInt8} (h : 128 ≤ c.toNat) : [(46 : UInt8), 101, 69].contains c = false := by
  have h0 : (c == 46) = false := by rw [beq_eq_false_iff_ne]; intro e; rw [e] at h; exact absurd h (by decide)
  have h1 : (c == 101) = false := by rw [beq_eq_false_iff_ne]; intro e; rw [e] at h; exact absurd h (by decide)
  have h2 : (c == 69) = false := by rw [beq_eq_false_iff_ne]; intro e; rw [e] at h; exact absurd h (by decide)
  simp [List.contains, List.elem, h0, h1, h2]

/-- A number has a point or an exponent. -/
def deeB (s : ByteArray) : Bool := decide (0 ≤ Lib.indexAny s.data.toList [46, 101, 69])

end Go.Proofs.Ytogmifomamgkpaa

/- A whole number, read of words. -/
namespace Go.Proofs.Ytogmifomamgkpaa
open Go.RowKit

/-- The whole number at a place, the place behind it, and the error. -/
def intV (l : List Tk) (at_ : Int) : Int × Int × Int :=
  if ¬ (tkV l at_).1.1 = 3 then (0, at_, 50) else if deeB (tkV l at_).2.2 = true then (0, at_, 50)
  else if (scalV (tkV l at_).2.2 1).2 = 0 then ((scalV (tkV l at_).2.2 1).1, at_ + 1, 0) else (0, at_, (scalV (tkV l at_).2.2 1).2)

end Go.Proofs.Ytogmifomamgkpaa

/- The document's own reading of words. -/
namespace Go.Proofs.Ytogmifomamgkpaa
open Go.RowKit

set_option maxRecDepth 100000 in
set_option maxHeartbeats 4000000 in
theorem rword_any (l : List ((Int × Int) × ByteArray × ByteArray)) (at_ : Int) (v : Value) (w : World) (h : Tks w v l) (hl : l.length ≤ 1000000) :
    Calls Try.prog 18 #[v, .int .i64 at_] w fun e w' => e = .returned (tkW (tkV l at_)) ∧ Below w.heap.size w w' := by
  have hz := TkAt.new w 0 0 ⟨#[]⟩ ⟨#[]⟩
  have hb0 : Below w.heap.size w (w.alloc (.cells #[.int .i64 0, .int .i64 0, .string ⟨#[]⟩, .string ⟨#[]⟩] 25)) := (Below.refl _ w).alloc (Nat.le_refl _) _
  have z0 := hz.c0
  have z1 := hz.c1
  have z2 := hz.c2
  have z3 := hz.c3
  have zz := hz.z
  have HB := hide hb0
  by_cases hn : at_ < 0
  · have hv : tkV l at_ = ((8, 0), ⟨#[]⟩, ⟨#[]⟩) := by unfold tkV; rw [if_pos hn]
    rw [hv]
    obtain ⟨ao, n, cap, rfl⟩ : ∃ ao n cap, v = .slice ao n cap := by
      rcases h.val with ⟨_, ao, cap, h⟩ | ⟨b, off, cap, h, _⟩
      · exact ⟨_, _, _, h⟩
      · exact ⟨_, _, _, h⟩
    clear h hv hz hb0
    go_enter Try.func18, Try.ntmps18
    go_upto_region 1 with fail
    generalize w.alloc (.cells #[.int .i64 0, .int .i64 0, .string ⟨#[]⟩, .string ⟨#[]⟩] 25) = w3 at *
    go_wp2_with fail
    refine bodyPost_ret (v := tkW ((8, 0), ⟨#[]⟩, ⟨#[]⟩)) (by simp [results, Try.results18, go_sem, z0, z1, z2, z3, tkW, tkA]) rfl ⟨rfl, below_four HB.out (Nat.le_refl _) _ _ _ _⟩
  · obtain ⟨i, rfl⟩ := Int.eq_ofNat_of_zero_le (show 0 ≤ at_ by omega)
    by_cases hi : i < l.length
    · obtain ⟨x, hx⟩ : ∃ x, l[i]? = some x := ⟨_, List.getElem?_eq_getElem hi⟩
      have hv : tkV l (i : Int) = x := by unfold tkV; rw [if_neg hn]; simp [List.getD, hx]
      rw [hv]
      rcases h.val with ⟨rfl, _⟩ | ⟨b, off, cap, rfl, hlt, hc⟩
      · simp at hi
      obtain ⟨a0, a1, a2, a3⟩ := hc i x hx
      have e0 := (hb0.cell (p := ⟨b, _, none⟩) hlt).trans a0
      have e1 := (hb0.cell (p := ⟨b, _, none⟩) hlt).trans a1
      have e2 := (hb0.cell (p := ⟨b, _, none⟩) hlt).trans a2
      have e3 := (hb0.cell (p := ⟨b, _, none⟩) hlt).trans a3
      have hii : (i : Int) < (l.length : Int) := by omega
      have hne : ¬ b = w.heap.size := by omega
      generalize l.length = n at *
      clear h hv hz hb0 hc hx a0 a1 a2 a3
      go_enter Try.func18, Try.ntmps18
      go_upto_region 1 with fail
      generalize w.alloc (.cells #[.int .i64 0, .int .i64 0, .string ⟨#[]⟩, .string ⟨#[]⟩] 25) = w3 at *
      go_wp2_with fail
      refine bodyPost_ret (v := tkW x) (by simp [results, Try.results18, go_sem, z0, z1, z2, z3, tkW, tkA]) rfl ⟨rfl, below_four HB.out (Nat.le_refl _) _ _ _ _⟩
    · have hv : tkV l (i : Int) = ((8, 0), ⟨#[]⟩, ⟨#[]⟩) := by unfold tkV; rw [if_neg hn]; simp [List.getD, hi]
      rw [hv]
      obtain ⟨ao, cap, rfl⟩ : ∃ ao cap, v = .slice ao l.length cap := by
        rcases h.val with ⟨h0, ao, cap, h⟩ | ⟨b, off, cap, h, _⟩
        · exact ⟨_, _, by rw [h0]; exact h⟩
        · exact ⟨_, _, h⟩
      have hii : ¬ (i : Int) < (l.length : Int) := by omega
      generalize l.length = n at *
      clear h hv hz hb0
      go_enter Try.func18, Try.ntmps18
      go_upto_region 1 with fail
      generalize w.alloc (.cells #[.int .i64 0, .int .i64 0, .string ⟨#[]⟩, .string ⟨#[]⟩] 25) = w3 at *
      go_wp2_with fail
      refine bodyPost_ret (v := tkW ((8, 0), ⟨#[]⟩, ⟨#[]⟩)) (by simp [results, Try.results18, go_sem, z0, z1, z2, z3, tkW, tkA]) rfl ⟨rfl, below_four HB.out (Nat.le_refl _) _ _ _ _⟩

/-- A text is one of some. -/
theorem any_none {p : ByteArray → Bool} : ∀ {zs : List ByteArray}, (∀ i, i < zs.length → p (zs.getD i ByteArray.empty) = false) → zs.any p = false
  | [], _ => rfl
  | z :: r, h => by
    have h0 := h 0 (by simp)
    have ih := any_none (p := p) (zs := r) (fun i hi => by have := h (i + 1) (by simpa using hi); simpa using this)
    simp only [List.getD_cons_zero] at h0
    simp [h0, ih]

theorem any_hit {p : ByteArray → Bool} {zs : List ByteArray} {j : Nat} (hj : j < zs.length) (hp : p (zs.getD j ByteArray.empty) = true) : zs.any p = true := by
  rw [List.any_eq_true]
  refine ⟨zs.getD j ByteArray.empty, ?_, hp⟩
  rw [List.getD, List.getElem?_eq_getElem hj]
  exact List.getElem_mem hj

/-- The document's own way to tell a number that is 0. -/
def noughtL : List UInt8 → Bool
  | [] => true
  | c :: r => if c == 101 || c == 69 then true else if c == 43 || c == 45 || c == 46 || c == 48 then noughtL r else false

theorem noughtL_is : ∀ l : List UInt8, noughtL l = ((l.takeWhile fun c => !(c == 101 || c == 69)).all fun c => c == 43 || c == 45 || c == 46 || c == 48)
  | [] => rfl
  | c :: r => by
    have ih := noughtL_is r
    unfold noughtL
    cases h1 : (c == 101 || c == 69)
    · cases h2 : (c == 43 || c == 45 || c == 46 || c == 48)
      · rw [List.takeWhile_cons, h1]; simp [h2]
      · rw [List.takeWhile_cons, h1]; simp [h2, ih]
    · rw [List.takeWhile_cons, h1]; simp

theorem eq8 (c : UInt8) (n : Nat) (hn : n < 256) : (c == UInt8.ofNat n) = decide ((c.toNat : Int) = (n : Int)) := by
  rw [Bool.eq_iff_iff, beq_iff_eq, decide_eq_true_iff]
  constructor
  · intro h; subst h; simp; omega
  · intro h
    apply UInt8.toNat_inj.1
    simp
    omega

end Go.Proofs.Ytogmifomamgkpaa

/- The document's own whole numbers, keywords and signs. -/
namespace Go.Proofs.Ytogmifomamgkpaa
open Go.RowKit

/-- What the document's Keyword keeps. -/
structure KySt (w wr : World) (T b : Nat) (k at_ : Int) (tx nm : ByteArray) (zs : List ByteArray) : Prop where
  tk : TkAt T k at_ tx nm wr
  txs : TxAt wr b zs
  lt : b < wr.heap.size
  bel : Below w.heap.size w wr

theorem KySt.next {w w1 w2 : World} {T b : Nat} {k at_ : Int} {tx nm : ByteArray} {zs : List ByteArray} (h : KySt w w1 T b k at_ tx nm zs) (hb : Below w1.heap.size w1 w2) : KySt w w2 T b k at_ tx nm zs :=
  ⟨h.tk.below hb h.tk.lt, h.txs.below hb h.lt, Nat.lt_of_lt_of_le h.lt hb.size, h.bel.trans (hb.mono h.bel.size)⟩

theorem KySt.cell {w wr : World} {T b : Nat} {k at_ : Int} {tx nm : ByteArray} {zs : List ByteArray} (h : KySt w wr T b k at_ tx nm zs) (j : Nat) (hj : j < zs.length) : wr.cell? ⟨b, j, none⟩ = some (.string (zs.getD j ByteArray.empty)) := by
  have := h.txs j hj
  rwa [Nat.zero_add] at this

set_option maxRecDepth 100000 in
set_option maxHeartbeats 8000000 in
theorem rkeyword_anyT (l : List Tk) (at_ : Int) (zs : List ByteArray) (b n : Nat) (v : Value) (w : World) (h : Tks w v l) (hl : ShortT l) (ht : TxAt w b zs) (hlt : b < w.heap.size) (hn : n = zs.length) (hz : zs.length ≤ 1000) (hzs : ∀ j, j < zs.length → (zs.getD j ByteArray.empty).size ≤ 140737488351232) :
    Calls Try.prog 17 #[v, .int .i64 at_, .slice (some ⟨b, 0, none⟩) n n] w fun e w' => e = .returned (.tuple #[.int .i64 (keywV l at_ zs).1, .int .i64 (keywV l at_ zs).2]) ∧ Below w.heap.size w w' := by
  subst hn
  have cw := rword_any l at_ v w h hl.1
  have hsz := hl.2 at_
  have hkv : keywV l at_ zs = if idxP (kwP l at_) zs < 0 then (-1, at_) else (idxP (kwP l at_) zs, at_ + 1) := rfl
  have hin : ¬ idxP (kwP l at_) zs < 0 → 0 ≤ at_ ∧ at_ < l.length := fun h0 => tk_in (fun h8 => h0 (by
    rw [idxP_false zs (fun z => by unfold kwP; rw [h8]; rfl)]; decide))
  have hll := hl.1
  obtain ⟨ao, m, cap, rfl⟩ : ∃ ao m cap, v = .slice ao m cap := by
    rcases h.val with ⟨_, ao, cap, h⟩ | ⟨b, off, cap, h, _⟩
    · exact ⟨_, _, _, h⟩
    · exact ⟨_, _, _, h⟩
  obtain ⟨k, ax, tx, nm, htk⟩ : ∃ k ax tx nm, tkV l at_ = ((k, ax), tx, nm) := ⟨_, _, _, _, rfl⟩
  have hp : kwP l at_ = fun z => decide (k = 1) && isB tx z := by funext z; unfold kwP; rw [htk]
  rw [htk] at cw hsz
  have ci : ∀ (j : Nat) (w' : World), j < zs.length → Calls Try.prog 36 #[.string tx, .string (zs.getD j ByteArray.empty)] w' fun e w'' => e = .returned (.bool (isB tx (zs.getD j ByteArray.empty))) ∧ Below w'.heap.size w' w'' := fun j w' hj => ris4_big tx _ w' (Nat.le_trans hsz (by decide)) (hzs j hj)
  have hpk : ∀ z, kwP l at_ z = (decide (k = 1) && isB tx z) := fun z => by rw [hp]
  generalize kwP l at_ = P at *
  have CW := hide cw
  have CI := hide ci
  have HKV := hide hkv
  have HIN := hide hin
  have HPK := hide hpk
  have HT := hide ht
  unfold tkW tkA at CW
  clear cw ci hkv hin h ht hl htk hp hsz hzs hpk
  go_enter Try.func17, Try.ntmps17
  go_wp2_with fail
  refine Calls.mono CW.out ?_
  rintro e w1 ⟨rfl, hb1⟩
  have hq := (Below.refl _ w1).alloc (Nat.le_refl _) (.cells #[.int .i64 k, .int .i64 ax, .string tx, .string nm] 25)
  have hB := hb1.trans (hq.mono hb1.size)
  have ST0 : Hid (KySt w (w1.alloc (.cells #[.int .i64 k, .int .i64 ax, .string tx, .string nm] 25)) w1.heap.size b k ax tx nm zs) := hide ⟨TkAt.new w1 k ax tx nm, (HT.out).below hB hlt, Nat.lt_of_lt_of_le hlt hB.size, hB⟩
  clear hb1 hq hB CW HT
  go_upto_region 2 with fail
  generalize w1.alloc (.cells #[.int .i64 k, .int .i64 ax, .string tx, .string nm] 25) = w2 at *
  generalize w1.heap.size = T at *
  go_wp2_with fail
  go_loopw [9] (fun i wr => ∃ j : Nat, j ≤ zs.length ∧ i = .int .i64 (j : Int) ∧ Hid (∀ i, i < j → P (zs.getD i ByteArray.empty) = false) ∧ Hid (KySt w wr T b k ax tx nm zs)) (fun i _ => ((zs.length : Int) - intOf i).toNat)
  case atStart => exact ⟨0, Nat.zero_le _, by go_num, hide (fun i hi => absurd hi (by omega)), ST0⟩
  case round =>
    clear ST0
    obtain ⟨j, hj, rfl, HN, ST⟩ := hrel
    by_cases hlk : j < zs.length
    · have hi : (j : Int) < (zs.length : Int) := by omega
      have hcell := (ST.out).cell j hlk
      have t0 := (ST.out).tk.c0
      have t2 := (ST.out).tk.c2
      have STd : Hid (KySt w wr.drew T b k ax tx nm zs) := hide ((ST.out).next (Below.refl _ wr).drew)
      have dcell := (STd.out).cell j hlk
      have d0 := (STd.out).tk.c0
      have d2 := (STd.out).tk.c2
      have hpz := HPK.out (zs.getD j ByteArray.empty)
      have hiv : (0 : Int) ≤ (j : Int) := by omega
      rcases eqk k 1 with ⟨h1, h1b⟩ | ⟨h1, h1b⟩
      · subst h1
        have cc : ∀ w', KySt w w' T b 1 ax tx nm zs → Calls Try.prog 36 #[.string tx, .string (zs.getD j ByteArray.empty)] w' fun e w'' => e = .returned (.bool (isB tx (zs.getD j ByteArray.empty))) ∧ KySt w w'' T b 1 ax tx nm zs := fun w' h => (unhide CI j w' hlk).mono fun _ _ hh => ⟨hh.1, h.next hh.2⟩
        have hpz2 : P (zs.getD j ByteArray.empty) = isB tx (zs.getD j ByteArray.empty) := by rw [hpz]; simp
        have HCL : Hid (∀ w', KySt w w' T b 1 ax tx nm zs → w'.cell? ⟨b, j, none⟩ = some (.string (zs.getD j ByteArray.empty))) := hide (fun w' h => h.cell j hlk)
        cases hq : isB tx (zs.getD j ByteArray.empty)
        · rw [hq] at cc hpz2
          have HN2 : Hid (∀ i, i < j + 1 → P (zs.getD i ByteArray.empty) = false) := hide (fun i hi => by
            rcases Nat.lt_or_ge i j with h | h
            · exact (HN.out) i h
            · obtain rfl : i = j := by omega
              exact hpz2)
          generalize zs.getD j ByteArray.empty = z at *
          have CC := hide cc
          clear cc hpz hpz2 hq HN CI HKV HIN HPK h1b
          go_upto_region 5 with fail
          clear ST hcell t0 t2
          go_region_held3 (fun w' => w'.cell? ⟨T, 0, none⟩ = some (.int .i64 1) ∧ w'.cell? ⟨T, 2, none⟩ = some (.string tx) ∧ w'.cell? ⟨b, j, none⟩ = some (.string z) ∧ Hid (KySt w w' T b 1 ax tx nm zs))
            (first | exact ⟨by assumption, by assumption, by assumption, by assumption⟩ | go_keep)
            (first
              | (go_at_call 36; refine (unhide CC _ (by assumption : Hid (KySt w _ T b 1 ax tx nm zs)).out).mono ?_; rintro e w' ⟨rfl, hq⟩; have hq0 := hq.tk.c0; have hq2 := hq.tk.c2; have hqz := (HCL.out) _ hq; have HQ := hide hq; clear hq))
          go_wp2_with fail
          go_round
          case rel => exact ⟨j + 1, by omega, by go_num, HN2, by assumption⟩
          case measure => simp [intOf]; omega
        · rw [hq] at cc hpz2
          have HV := hide (idxP_hit HN.out hlk hpz2)
          generalize zs.getD j ByteArray.empty = z at *
          have hkv2 := HKV.out
          rw [HV.out, if_neg (by omega)] at hkv2
          have hi2 := (HIN.out) (by rw [HV.out]; omega)
          have hi3 : at_ + 1 < 9223372036854775807 := by omega
          have hi0 : 0 ≤ at_ := hi2.1
          have HKV2 := hide hkv2
          have CC := hide cc
          clear cc hpz hpz2 hq HN CI HKV HIN HPK h1b hi2 hkv2
          go_upto_region 5 with fail
          clear ST hcell t0 t2
          go_region_held3 (fun w' => w'.cell? ⟨T, 0, none⟩ = some (.int .i64 1) ∧ w'.cell? ⟨T, 2, none⟩ = some (.string tx) ∧ w'.cell? ⟨b, j, none⟩ = some (.string z) ∧ Hid (KySt w w' T b 1 ax tx nm zs))
            (first | exact ⟨by assumption, by assumption, by assumption, by assumption⟩ | go_keep)
            (first
              | (go_at_call 36; refine (unhide CC _ (by assumption : Hid (KySt w _ T b 1 ax tx nm zs)).out).mono ?_; rintro e w' ⟨rfl, hq⟩; have hq0 := hq.tk.c0; have hq2 := hq.tk.c2; have hqz := (HCL.out) _ hq; have HQ := hide hq; clear hq))
          go_wp2_with fail
          go_ret2
          exact ⟨by rw [HKV2.out] <;> rfl, (by assumption : Hid (KySt w _ T b 1 ax tx nm zs)).out.bel⟩
      · have hd : decide (k = 1) = false := by simp [h1]
        rw [hd, Bool.false_and] at hpz
        have HN2 : Hid (∀ i, i < j + 1 → P (zs.getD i ByteArray.empty) = false) := hide (fun i hi => by
          rcases Nat.lt_or_ge i j with h | h
          · exact (HN.out) i h
          · obtain rfl : i = j := by omega
            exact hpz)
        clear hpz HN CI HKV HIN HPK h1 hd
        go_upto_region 5 with fail
        go_quiet (fail)
        go_wp2_with fail
        go_round
        case rel => exact ⟨j + 1, by omega, by go_num, HN2, hide ((ST.out).next (drw _ _ _))⟩
        case measure => simp [intOf]; omega
    · have hi : ¬ (j : Int) < (zs.length : Int) := by omega
      obtain rfl : j = zs.length := by omega
      have hkv := HKV.out
      rw [idxP_none HN.out, if_pos (by decide)] at hkv
      have HV := hide hkv
      clear hkv HKV HN HIN
      go_wp2_with fail
      go_ret2
      exact ⟨by rw [HV.out] <;> rfl, (ST.out).bel⟩

theorem rkeyword_any (l : List Tk) (at_ : Int) (zs : List ByteArray) (b n : Nat) (v : Value) (w : World) (h : Tks w v l) (hl : Short l) (ht : TxAt w b zs) (hlt : b < w.heap.size) (hn : n = zs.length) (hz : zs.length ≤ 1000) (hzs : ∀ j, j < zs.length → (zs.getD j ByteArray.empty).size ≤ 140737488351232) :
    Calls Try.prog 17 #[v, .int .i64 at_, .slice (some ⟨b, 0, none⟩) n n] w fun e w' => e = .returned (.tuple #[.int .i64 (keywV l at_ zs).1, .int .i64 (keywV l at_ zs).2]) ∧ Below w.heap.size w w' := rkeyword_anyT l at_ zs b n v w h hl.T ht hlt hn hz hzs

theorem not_dee {c : UInt8} (h0 : ¬ (c.toNat : Int) = 46) (h1 : ¬ (c.toNat : Int) = 101) (h2 : ¬ (c.toNat : Int) = 69) : [(46 : UInt8), 101, 69].contains c = false := by
  have e0 : (c == 46) = false := by rw [beq_eq_false_iff_ne]; intro e; rw [e] at h0; exact h0 rfl
  have e1 : (c == 101) = false := by rw [beq_eq_false_iff_ne]; intro e; rw [e] at h1; exact h1 rfl
  have e2 : (c == 69) = false := by rw [beq_eq_false_iff_ne]; intro e; rw [e] at h2; exact h2 rfl
  simp [List.contains, List.elem, e0, e1, e2]

theorem is_dee {c : UInt8} (h : (c.toNat : Int) = 46 ∨ (c.toNat : Int) = 101 ∨ (c.toNat : Int) = 69) : [(46 : UInt8), 101, 69].contains c = true := by
  have : c = 46 ∨ c = 101 ∨ c = 69 := by
    rcases h with h | h | h
    · exact .inl (UInt8.toNat_inj.1 (by simp; omega))
    · exact .inr (.inl (UInt8.toNat_inj.1 (by simp; omega)))
    · exact .inr (.inr (UInt8.toNat_inj.1 (by simp; omega)))
  rcases this with rfl | rfl | rfl <;> decide

theorem dee_hit {s : ByteArray} {k : Nat} (hk : k < s.size) (hn : Lib.NoAny s.data.toList [46, 101, 69] k) (h : (s[k].toNat : Int) = 46 ∨ (s[k].toNat : Int) = 101 ∨ (s[k].toNat : Int) = 69) : deeB s = true := by
  unfold deeB
  rw [Lib.indexAny_hit hn (Lib.data_getElem? s k hk) (is_dee h)]
  simp

theorem dee_none {s : ByteArray} (hn : Lib.NoAny s.data.toList [46, 101, 69] s.size) : deeB s = false := by
  unfold deeB
  rw [Lib.indexAny_none (fun j b hj hb => hn j b (by simp at hj; omega) hb)]
  decide

end Go.Proofs.Ytogmifomamgkpaa

/- ref08.Read: what its loop stands on. -/
namespace Go.Proofs.Ytogmifomamgkpaa
open Go.RowKit

/-- Rows that have been read, of one's own. -/
structure RdO (w W : World) (u : Value) (rs : List (List ByteArray)) : Prop where
  own : ∃ us, W.ownsRow w.heap.size 37 1 u rs.length us ∧ RowsO W w.heap.size us rs
  bel : Below w.heap.size w W

theorem RdO.below {w W W' : World} {u : Value} {rs : List (List ByteArray)} (h : RdO w W u rs) (hb : Below W.heap.size W W') : RdO w W' u rs := by
  obtain ⟨us, h1, h2⟩ := h.own
  exact ⟨⟨us, own_below h1 hb, h2.below hb⟩, h.bel.trans (hb.mono h.bel.size)⟩

theorem RdO.rws {w W : World} {u : Value} {rs : List (List ByteArray)} (h : RdO w W u rs) : Rws W u rs := by
  obtain ⟨us, h1, h2⟩ := h.own
  exact rws_own h2 h1

theorem RdO.next {w W w1 w2 : World} {rs : List (List ByteArray)} {v u v' : Value} {us : List Value} {cs : List ByteArray} (hrw : W.ownsRow w.heap.size 37 1 v rs.length us) (hro : RowsO W w.heap.size us rs) (hbel : Below w.heap.size w W)
    (hb1 : Below W.heap.size W w1) (hu : w1.ownsRow W.heap.size 9 1 u cs.length (cs.map Value.string)) {tmp : Obj}
    (hown : w2.ownsRow w.heap.size 37 1 v' (rs.length + 1) (us ++ [u])) (hgrow : (w1.alloc tmp).grownBy w2 v.ownBlock) :
    RdO w w2 v' (rs ++ [cs]) := by
  have hs0 := hbel.size
  have hs1 := hb1.size
  have hv1 : w1.ownsRow w.heap.size 37 1 v rs.length us := own_below hrw hb1
  have hne1 : ∀ j, v.ownBlock = some j → ∀ c, (w1.alloc tmp).heap[j]? ≠ some (.cells c 9) := fun j e c e2 => by
    rcases (hv1.alloc tmp).2 with ⟨rfl, _⟩ | ⟨g, cap, cur, rfl, _, hgb, _⟩
    · cases e
    · obtain rfl : g = j := by simpa [Value.ownBlock] using e
      rw [hgb] at e2
      simp at e2
  have hu2 : w1.ownsRow w.heap.size 9 1 u cs.length (cs.map Value.string) := own_mono8 hu hs0
  have r1 := (hro.below hb1).snoc hu2
  have r2 := r1.kept (World.grownBy_alloc w1 tmp none) (fun j e => by cases e)
  have r3 := r2.kept hgrow hne1
  refine ⟨⟨us ++ [u], ?_, r3⟩, ((hbel.trans (hb1.mono hs0)).alloc (by omega) tmp).grown hgrow (by simp; omega) (fun j e => (hv1.lt j e).1)⟩
  have : (rs ++ [cs]).length = rs.length + 1 := by simp
  rw [this]
  exact hown

theorem rowV_len {n m : Nat} {s : ByteArray} {cs : List ByteArray} (h : rowV n m s = .ok cs) (hn : 0 < n) : cs.length = m := by
  unfold rowV at h
  split at h
  · cases h
  · split at h
    · cases h
    · split at h
      · cases h
      · rename_i h2
        cases h
        omega

/-- All rows have as many cells as the first. -/
def EvH (rs : List (List ByteArray)) : Prop := ∀ r ∈ rs, r.length = (rs.headD []).length

theorem EvH.snoc {rs : List (List ByteArray)} (h : EvH rs) {s : ByteArray} {cs : List ByteArray} (hc : rowV rs.length (rs.headD []).length s = .ok cs) : EvH (rs ++ [cs]) ∧ ((rs ++ [cs]).headD []).length = cs.length := by
  cases rs with
  | nil => exact ⟨fun r hr => by simp at hr; subst hr; rfl, rfl⟩
  | cons x t =>
    have hl := rowV_len hc (by simp)
    refine ⟨fun r hr => ?_, by simp at hl ⊢; exact hl.symm⟩
    simp only [List.mem_append, List.mem_singleton] at hr
    rcases hr with hr | rfl
    · exact h r hr
    · exact hl

theorem EvH.even {rs : List (List ByteArray)} (h : EvH rs) : Even8 rs := ⟨_, fun i hi => by rw [List.getD, List.getElem?_eq_getElem hi]; exact h _ (List.getElem_mem hi)⟩

/-- What is left to be read. -/
def RdLeft (l : List Tk) (at_ : Int) (RA : List (List ByteArray) × Int × Int) (rs : List (List ByteArray)) (k : Int) : Prop :=
  RA = match rdRows l rs (textsV l k) with
    | .error (p, e) => ([], (p : Int), e)
    | .ok rs' => if rs'.length = 0 ∨ filledV rs' = false then ([], at_, 50) else (rs', at_ + rs'.length, 0)

theorem cntS_hit {l : List Tk} {a : Nat} (h : isS l a = true) : cntS l a = cntS l (a + 1) + 1 := by
  have key : ∀ f p, l.length ≤ p + f → ∀ n, (∀ j, j < n → isS l (p + j) = true) → isS l (p + n) = false → cntF l f p = n := by
    intro f
    induction f with
    | zero =>
      intro p hp n h1 _
      cases n with
      | zero => rfl
      | succ n =>
        have := isS_lt (h1 0 (by omega))
        omega
    | succ f ih =>
      intro p hp n h1 h2
      unfold cntF
      cases n with
      | zero =>
        rw [Nat.add_zero] at h2
        rw [if_neg (by rw [h2]; simp)]
      | succ n =>
        have h0 := h1 0 (by omega)
        rw [Nat.add_zero] at h0
        rw [if_pos h0, ih (p + 1) (by omega) n (fun j hj => by have := h1 (j + 1) (by omega); rw [show p + 1 + j = p + (j + 1) by omega]; exact this) (by rw [show p + 1 + n = p + (n + 1) by omega]; exact h2)]
  have h1 := cntS_end l (a + 1)
  refine key (l.length - a) a (by omega) (cntS l (a + 1) + 1) (fun j hj => ?_) (by rw [show a + (cntS l (a + 1) + 1) = a + 1 + cntS l (a + 1) by omega]; exact h1)
  cases j with
  | zero => exact h
  | succ j =>
    have := cntS_in (l := l) (a := a + 1) (k := j) (by omega)
    rw [show a + (j + 1) = a + 1 + j by omega]
    exact this

theorem textsV_hit {l : List Tk} {k : Int} (h : (tkV l k).1.1 = 6) : 0 ≤ k ∧ k < l.length ∧ textsV l k = k.toNat :: textsV l (k + 1) := by
  have hin := tk_in (l := l) (i := k) (by rw [h]; decide)
  refine ⟨hin.1, hin.2, ?_⟩
  obtain ⟨a, rfl⟩ := Int.eq_ofNat_of_zero_le hin.1
  have hs : isS l a = true := by unfold isS; rw [decide_eq_true_iff]; exact h
  unfold textsV
  rw [if_neg (by omega), if_neg (by omega), Int.toNat_natCast, cntS_hit hs, show ((a : Int) + 1).toNat = a + 1 by omega]
  unfold upT
  rw [List.range_succ_eq_map, List.map_cons, List.map_map]
  refine congr (congrArg _ (by omega)) (List.map_congr_left fun j _ => ?_)
  simp only [Function.comp]
  omega

theorem textsV_no {l : List Tk} {k : Int} (h : ¬ (tkV l k).1.1 = 6) : textsV l k = [] := by
  unfold textsV
  by_cases hk : k < 0
  · rw [if_pos hk]
  · rw [if_neg hk]
    obtain ⟨a, rfl⟩ := Int.eq_ofNat_of_zero_le (show 0 ≤ k by omega)
    rw [Int.toNat_natCast]
    have : cntS l a = 0 := by
      rcases Nat.eq_zero_or_pos (cntS l a) with h0 | h0
      · exact h0
      · have := cntS_in h0
        rw [Nat.add_zero] at this
        unfold isS at this
        rw [decide_eq_true_iff] at this
        exact absurd this h
    rw [this]
    rfl

end Go.Proofs.Ytogmifomamgkpaa

/- ref08.Read, walked. -/
namespace Go.Proofs.Ytogmifomamgkpaa
open Go.RowKit

set_option maxRecDepth 100000 in
theorem tok_kind (a b c d : Value) (w : World) : Sem.run Try.prog (Instr.field 25 (.agg #[a, b, c, d]) 0) w = .ok a w := by rfl

set_option maxRecDepth 100000 in
set_option maxHeartbeats 16000000 in
theorem rread8_any (l : List Tk) (at_ : Int) (v : Value) (w : World) (h : Tks w v l) (hl : ShortT l) (hts : ∀ p : Int, (tkV l p).2.1.size ≤ 900000) :
    Calls Try.prog 7 #[v, .int .i64 at_] w fun e w' => Below w.heap.size w w' ∧ ∃ u, e = .returned (.tuple #[u, .int .i64 (readA l at_).2.1, .int .i64 (readA l at_).2.2]) ∧ Rws w' u (readA l at_).1 := by
  have hso : ∀ z ∈ kw8, z.size ≤ 140737488351232 := by decide +kernel
  have hb0 : Below w.heap.size w (w.alloc (.cells #[.string ⟨#[110, 111, 110, 101]⟩, .string ⟨#[105, 110, 104, 101, 114, 105, 116]⟩, .string ⟨#[105, 110, 105, 116, 105, 97, 108]⟩, .string ⟨#[117, 110, 115, 101, 116]⟩, .string ⟨#[114, 101, 118, 101, 114, 116]⟩] 9)) := (Below.refl _ w).alloc (Nat.le_refl _) _
  have ht0 : TxAt (w.alloc (.cells #[.string ⟨#[110, 111, 110, 101]⟩, .string ⟨#[105, 110, 104, 101, 114, 105, 116]⟩, .string ⟨#[105, 110, 105, 116, 105, 97, 108]⟩, .string ⟨#[117, 110, 115, 101, 116]⟩, .string ⟨#[114, 101, 118, 101, 114, 116]⟩] 9)) w.heap.size kw8 := txAt_new w 9 kw8
  have ck := rkeyword_anyT l at_ kw8 w.heap.size 5 v _ (h.below hb0) hl ht0 (by simp) rfl (by decide) (fun j hj => by rw [List.getD, List.getElem?_eq_getElem hj]; exact hso _ (List.getElem_mem hj))
  have hRA : readA l at_ = if (keywV l at_ kw8).1 = 0 then ([], (keywV l at_ kw8).2, 0) else if 0 < (keywV l at_ kw8).1 then ([], at_, 51) else
    match rdRows l [] (textsV l at_) with
    | .error (p, e) => ([], (p : Int), e)
    | .ok rs => if rs.length = 0 ∨ filledV rs = false then ([], at_, 50) else (rs, at_ + rs.length, 0) := rfl
  have cw := fun (k : Int) (w' : World) (hb : Below w.heap.size w w') => rword_any l k v w' (h.below hb) hl.1
  generalize readA l at_ = RA at *
  obtain ⟨ao, cap, rfl⟩ : ∃ ao cap, v = .slice ao l.length cap := by
    rcases h.val with ⟨h0, ao, cap, h⟩ | ⟨b, off, cap, h, _⟩
    · exact ⟨ao, cap, by rw [h0]; exact h⟩
    · exact ⟨_, _, h⟩
  generalize keywV l at_ kw8 = KV at *
  obtain ⟨k1, k2⟩ := KV
  simp only at hRA ck
  have HRA := hide hRA
  have CK := hide ck
  have CW := hide cw
  have HT := hide h
  have hsl := hl.1
  have HTS := hide hts
  have HB0 := hide hb0
  obtain ⟨L0, hL0⟩ : ∃ L0, L0 = l.length := ⟨_, rfl⟩
  rw [← hL0] at CK CW HT hsl ⊢
  have HL0 := hide hL0
  clear hRA ck cw h hl hts hso hb0 ht0 hL0
  have hfk := tok_kind
  go_enter Try.func7, Try.ntmps7
  go_wp2_with fail
  refine Calls.mono CK.out ?_
  rintro e w1 ⟨rfl, hw1⟩
  have HB1 := hide ((HB0.out).trans (hw1.mono (HB0.out).size))
  clear CK hw1 HB0
  rcases Int.lt_trichotomy k1 0 with hk | hk | hk
  · have e0 : (k1 == 0) = false := by simp; omega
    have e1 : ¬ 0 < k1 := by omega
    have HLF : Hid (RdLeft l at_ RA [] at_) := hide (by unfold RdLeft; rw [HRA.out, if_neg (by omega), if_neg (by omega)] <;> rfl)
    have HO0 : Hid (RdO w w1 (.slice none 0 0) []) := hide ⟨⟨[], ⟨rfl, .inl ⟨rfl, rfl⟩⟩, RowsO.nil _ _⟩, HB1.out⟩
    obtain ⟨i0, hi, hz0, hz1, hz2⟩ := info_parts strs_info
    clear HRA hk HB1
    go_wp2_with fail
    go_loopw [8, 9, 10] (fun a u c wx => ∃ (k : Int) (rs : List (List ByteArray)), a = .int .i64 k ∧ c = .int .i64 ((rs.headD []).length : Int) ∧ Hid (k = at_ + rs.length) ∧ (0 < rs.length → 0 ≤ at_ ∧ k ≤ L0) ∧ Hid (RdLeft l at_ RA rs k) ∧ Hid (SmRs rs ∧ EvH rs) ∧ Hid (RdO w wx u rs)) (fun a _ _ _ => (L0 - intOf a).toNat)
    case atStart => exact ⟨at_, [], rfl, rfl, hide (by simp), fun h => by simp at h, HLF, hide ⟨SmRs.nil, fun r hr => by simp at hr⟩, HO0⟩
    case round =>
      clear HLF HO0
      obtain ⟨k, rs, rfl, rfl, HKR, hkl, HLF, HSM, HO⟩ := hrel
      have cw := (CW.out) k wr (HO.out).bel
      have HCW := hide cw
      clear cw
      by_cases hs6 : (tkV l k).1.1 = 6
      · obtain ⟨hk0, hk1, htx⟩ := textsV_hit hs6
        rw [← HL0.out] at hk1
        obtain ⟨a, rfl⟩ := Int.eq_ofNat_of_zero_le hk0
        have hcell : ∃ b off, ao = some ⟨b, off, none⟩ ∧ b < w.heap.size ∧ w.cell? ⟨b, off + a * 4 + 2, none⟩ = some (.string (tkV l (a : Int)).2.1) := by
          rcases (HT.out).val with ⟨h0, _⟩ | ⟨b, off, cap', hv, hb, hc⟩
          · have := HL0.out; rw [h0] at this; simp at this; omega
          · simp only [Value.slice.injEq] at hv
            have hx : l[a]? = some (tkV l (a : Int)) := by rw [tkV_nat, List.getD, List.getElem?_eq_getElem (by have := HL0.out; omega)]; rfl
            exact ⟨b, off, hv.1, hb, (hc a _ hx).2.2.1⟩
        obtain ⟨b, off, rfl, hb, hc2⟩ := hcell
        have hsz := (HTS.out) (a : Int)
        have hlf := HLF.out
        unfold RdLeft at hlf
        rw [htx, Int.toNat_natCast] at hlf
        unfold rdRows at hlf
        have hn64 := (HSM.out).1.1
        have cr := fun w' => rrow_any (tkV l (a : Int)).2.1 rs.length (rs.headD []).length w' (by omega) hsz
        obtain ⟨us, hown, hro⟩ := (HO.out).own
        obtain ⟨ua, uc, rfl⟩ := own_slice8 hown
        have hmm : (rs.headD []).length ≤ 64 := by
          cases hrs : rs with
          | nil => simp
          | cons x t => exact ((HSM.out).1.2 x (by rw [hrs]; simp)).1
        obtain ⟨x1, x2, x3, x4, hx⟩ : ∃ x1 x2 x3 x4, tkV l (a : Int) = ((x1, x2), x3, x4) := ⟨_, _, _, _, rfl⟩
        rw [hx] at hs6 hc2 hsz hlf cr HCW
        simp only at hs6 hc2 hsz hlf cr
        subst hs6
        have HCR := hide cr
        have HLF2 := hide hlf
        have hsm := (HSM.out).1
        have hev := (HSM.out).2
        have HSMO := hide hsm
        have HEVO := hide hev
        obtain ⟨R0, hR0⟩ : ∃ R0, R0 = rs.length := ⟨_, rfl⟩
        obtain ⟨M0, hM0⟩ : ∃ M0, M0 = (rs.headD []).length := ⟨_, rfl⟩
        rw [← hR0] at hown HKR hn64
        rw [← hM0] at hmm
        rw [← hR0, ← hM0] at HCR HLF2
        have HR0 := hide hR0
        have HM0 := hide hM0
        have HOWN := hide hown
        have HRO := hide hro
        have HBL := hide (HO.out).bel
        have hat : 0 ≤ at_ ∨ R0 = 0 := by rcases Nat.eq_zero_or_pos R0 with h | h; exact .inr h; exact .inl (hkl (by omega)).1
        have hab : (a : Int) < (L0 : Int) := by omega
        clear cr hlf HSM hsm hev hR0 hM0 hown hro HO HLF hx htx hk0 HT hkl
        go_wp2_with fail
        refine Calls.mono HCW.out ?_
        unfold tkW tkA
        rintro e w2 ⟨rfl, hw2⟩
        have d2 := (((HBL.out).trans (hw2.mono (HBL.out).size)).cell (p := ⟨b, off + a * 4 + 2, none⟩) hb).trans hc2
        have HW2 := hide hw2
        have cr2 := (HCR.out) w2
        have HCR2 := hide cr2
        clear cr2 HCR HCW hw2 hc2
        rw [← HM0.out, ← HR0.out]
        go_wp2_with fail
        refine Calls.mono HCR2.out ?_
        rintro e w3 ⟨hw3, hne⟩
        have HW3 := hide ((HW2.out).trans (hw3.mono (HW2.out).size))
        clear HCR2 d2
        cases hrv : rowV R0 M0 x3 with
        | error er =>
          rw [hrv] at hne
          have hne2 : e = _ := hne
          subst hne2
          have her := rowV_err hrv
          have hez : (er == 0) = false := by rcases her with rfl | rfl <;> rfl
          have HV : Hid (RA = ([], (a : Int), er)) := hide (by rw [HLF2.out, hrv])
          have HB3 := hide ((HBL.out).trans ((HW3.out).mono (HBL.out).size))
          clear her hne hrv HLF2 hw3
          go_wp2_with fail
          go_ret3
          exact ⟨HB3.out, _, by rw [HV.out]; rfl, by rw [HV.out]; exact ⟨.inl ⟨rfl, none, 0, rfl⟩⟩⟩
        | ok cs =>
          rw [hrv] at hne
          obtain ⟨u, rfl, hu⟩ := hne
          have hu2 : w3.ownsRow wr.heap.size 9 1 u cs.length (cs.map Value.string) := own_mono8 hu (HW2.out).size
          have hsn := (HSMO.out).snoc (m := M0) (by rw [← HR0.out]; exact hrv)
          have hen := (HEVO.out).snoc (s := x3) (by rw [← HR0.out, ← HM0.out]; exact hrv)
          have HLF3 : Hid (RdLeft l at_ RA (rs ++ [cs]) ((a : Int) + 1)) := hide (by unfold RdLeft; rw [HLF2.out, hrv] <;> rfl)
          have hcs := (rowV_ok hrv).2.1
          obtain ⟨va, vc, hus⟩ := own_slice8 hu
          have HU := hide hu2
          have HSN := hide hsn
          have HEN := hide hen
          have HOWN3 := hide (own_below HOWN.out HW3.out)
          have hbl := (HBL.out).size
          have hw3s := (HW3.out).size
          clear hu hu2 hsn hen hrv HLF2 hw3
          subst hus
          go_wp2_with (at_builtin; refine wpList_append_own _ rfl _ _ 26 rfl w.heap.size 37 i0 _ 1 24 Try.underlying26 hi hz0 hz1 hz2 rfl (by decide) _ _ _ rfl ((HOWN3.out).alloc _) ⟨w3.heap.size, 0, none⟩ 1 1 [.slice va cs.length vc] rfl rfl (cell_one_new _ _ _ rfl _) (by simp [Value.oneCell']) (by unfold maxLen; omega) (by (try simp); omega) (by (try simp); omega) ?_)
          intro v' w6 hown' hgrow _
          have HO6 := hide (RdO.next (cs := cs) (by rw [← HR0.out]; exact HOWN.out) HRO.out HBL.out HW3.out HU.out (by rw [← HR0.out]; exact hown') hgrow)
          clear hown' hgrow
          go_wp2_with fail
          go_roundw
          case rel => exact ⟨(a : Int) + 1, rs ++ [cs], by go_num, by rw [(HEN.out).2], hide (by have := HKR.out; simp; rw [← HR0.out]; omega), fun _ => by have := HKR.out; omega, HLF3, hide ⟨HSN.out, (HEN.out).1⟩, HO6⟩
          case measure => simp [intOf]; omega
      · have hlf := HLF.out
        unfold RdLeft at hlf
        rw [textsV_no hs6] at hlf
        simp only [rdRows] at hlf
        have hsm := (HSM.out).1
        have hev := (HSM.out).2.even
        have h6 : ((tkV l k).1.1 == 6) = false := by rw [beq_eq_false_iff_ne]; exact hs6
        obtain ⟨x1, x2, x3, x4, hx⟩ : ∃ x1 x2 x3 x4, tkV l k = ((x1, x2), x3, x4) := ⟨_, _, _, _, rfl⟩
        rw [hx] at HCW h6
        simp only at h6
        have hn64 := hsm.1
        have cf := fun w' (hb : Below wr.heap.size wr w') => rfilled_any rs _ w' (((HO.out).below hb).rws) hsm hev
        obtain ⟨us, hown, hro⟩ := (HO.out).own
        obtain ⟨ua, uc, rfl⟩ := own_slice8 hown
        generalize filledV rs = FV at *
        have CF := hide cf
        have HLF2 := hide hlf
        clear hlf cf hsm hev HSM hs6 hx HLF hown hro
        go_wp2_with fail
        refine Calls.mono HCW.out ?_
        unfold tkW tkA
        rintro e w2 ⟨rfl, hw2⟩
        have HO2 := hide ((HO.out).below hw2)
        have cf2 := (CF.out) w2 hw2
        have CF2 := hide cf2
        clear cf2 CF hw2 HO HCW
        by_cases hn0 : rs.length = 0
        · have HV : Hid (RA = ([], at_, 50)) := hide (by rw [HLF2.out, if_pos (.inl hn0)])
          rw [hn0]
          clear HLF2 hn0 CF2
          go_wp2_with fail
          go_ret3
          exact ⟨(HO2.out).bel, _, by rw [HV.out]; rfl, by rw [HV.out]; exact ⟨.inl ⟨rfl, none, 0, rfl⟩⟩⟩
        · have hn1 : ((rs.length : Int) == 0) = false := by rw [beq_eq_false_iff_ne]; omega
          obtain ⟨R0, hR0⟩ : ∃ R0, R0 = rs.length := ⟨_, rfl⟩
          rw [← hR0] at CF2 hn1 hn0 hn64 HKR HO2 ⊢
          have HR0 := hide hR0
          clear hR0 hkl
          go_wp2_with fail
          refine Calls.mono CF2.out ?_
          rintro e w3 ⟨rfl, hw3⟩
          have HO3 := hide ((HO2.out).below hw3)
          clear CF2 hw3 HO2
          cases FV
          · have HV : Hid (RA = ([], at_, 50)) := hide (by rw [HLF2.out, if_pos (.inr rfl)])
            clear HLF2
            go_wp2_with fail
            go_ret3
            exact ⟨(HO3.out).bel, _, by rw [HV.out]; rfl, by rw [HV.out]; exact ⟨.inl ⟨rfl, none, 0, rfl⟩⟩⟩
          · have HV : Hid (RA = (rs, at_ + R0, 0)) := hide (by rw [HLF2.out, if_neg (by rw [← HR0.out]; simp; exact hn0), HR0.out])
            clear HLF2
            go_wp2_with fail
            go_ret3
            exact ⟨(HO3.out).bel, _, by rw [HV.out, HKR.out]; rfl, by rw [HV.out]; exact (HO3.out).rws⟩
  · subst hk
    have HV : Hid (RA = ([], k2, 0)) := hide (by rw [HRA.out, if_pos rfl])
    clear HRA CW
    go_wp2_with fail
    go_ret3
    exact ⟨HB1.out, _, by rw [HV.out]; rfl, by rw [HV.out]; exact ⟨.inl ⟨rfl, none, 0, rfl⟩⟩⟩
  · have e0 : (k1 == 0) = false := by simp; omega
    have HV : Hid (RA = ([], at_, 51)) := hide (by rw [HRA.out, if_neg (by omega), if_pos hk])
    clear HRA CW
    go_wp2_with fail
    go_ret3
    exact ⟨HB1.out, _, by rw [HV.out]; rfl, by rw [HV.out]; exact ⟨.inl ⟨rfl, none, 0, rfl⟩⟩⟩

end Go.Proofs.Ytogmifomamgkpaa

/- AreaReads: the statement's own walk. -/
namespace Go.Proofs.Ytogmifomamgkpaa
open Go.RowKit

theorem readA_sm (l : List Tk) (at_ : Int) : SmRs (readA l at_).1 := by
  unfold readA
  split
  · exact SmRs.nil
  · split
    · exact SmRs.nil
    · split
      · exact SmRs.nil
      · rename_i rs hrs
        split
        · exact SmRs.nil
        · exact rdRows_sm l _ [] rs SmRs.nil hrs

set_option maxRecDepth 100000 in
set_option maxHeartbeats 8000000 in
theorem areaReads_walk (v : Value) (l : List Tk) (at_ : Int) (w : World) (hx : Tks w v l) (hm : MaxAt w) :
    Calls Try.prog 3 #[v, .int .i64 at_] w fun e w' => e = .returned (.bool true) ∧ Below w.heap.size w w' := by
  have cl := fun w' (hb : Below w.heap.size w w') => lives8_any w' (hm.below hb)
  have ST0 : Hid (Tks w v l ∧ Below w.heap.size w w) := hide ⟨hx, Below.refl _ w⟩
  obtain ⟨ao, cap, rfl⟩ : ∃ ao cap, v = .slice ao l.length cap := by
    rcases hx.val with ⟨h0, ao, cap, h⟩ | ⟨b, off, cap, h, _⟩
    · exact ⟨ao, cap, by rw [h0]; exact h⟩
    · exact ⟨_, _, h⟩
  have CL := hide cl
  clear hx hm cl
  obtain ⟨L0, hL0⟩ : ∃ L0, L0 = l.length := ⟨_, rfl⟩
  rw [← hL0] at ST0 ⊢
  have HL0 := hide hL0
  clear hL0
  by_cases hl : 100 < L0
  · have h1 : (100 : Int) < (L0 : Int) := by omega
    have c1 := (CL.out) w (Below.refl _ _)
    have C1 := hide c1
    clear c1 CL ST0
    go_enter Try.func3, Try.ntmps3
    go_wp2_with fail
    refine Calls.mono C1.out ?_
    rintro e w1 ⟨rfl, hb⟩
    have HB := hide hb
    clear hb
    go_wp2_with fail
    go_ret
    exact ⟨rfl, HB.out⟩
  · have h1 : ¬ (100 : Int) < (L0 : Int) := by omega
    go_enter Try.func3, Try.ntmps3
    go_wp2_with fail
    go_loopw [19] (fun i wr => ∃ j : Nat, j ≤ L0 ∧ i = .int .i64 (j : Int) ∧ Hid (Tks wr (.slice ao L0 cap) l ∧ Below w.heap.size w wr) ∧ Hid (∀ i x, i < j → l[i]? = some x → x.2.1.size ≤ 600)) (fun i _ => ((L0 : Int) - intOf i).toNat)
    case atStart => exact ⟨0, by omega, by go_num, ST0, hide (fun _ _ h => by omega)⟩
    case round =>
      clear ST0
      obtain ⟨j, hj, rfl, ST, HS⟩ := hrel
      by_cases hjl : j < L0
      · obtain ⟨x, hxj⟩ : ∃ x, l[j]? = some x := ⟨_, List.getElem?_eq_getElem (by rw [← HL0.out]; exact hjl)⟩
        rcases (ST.out).1.val with ⟨hnil, _⟩ | ⟨b, off, cap', hsl, hlt, hc⟩
        · rw [hnil] at hxj; simp at hxj
        · have hao : ao = some ⟨b, off, none⟩ := by simp at hsl; exact hsl.1
          have hji : (j : Int) < (L0 : Int) := by omega
          obtain ⟨c0, c1, c2, c3⟩ := hc j x hxj
          subst hao
          have hq := (Below.refl _ wr).alloc (Nat.le_refl _) (.cells #[.int .i64 x.1.1, .int .i64 x.1.2, .string x.2.1, .string x.2.2] 25)
          have ST2 : Hid (Tks (wr.alloc (.cells #[.int .i64 x.1.1, .int .i64 x.1.2, .string x.2.1, .string x.2.2] 25)) (.slice (some ⟨b, off, none⟩) L0 cap) l ∧ Below w.heap.size w (wr.alloc (.cells #[.int .i64 x.1.1, .int .i64 x.1.2, .string x.2.1, .string x.2.2] 25))) := hide ⟨(ST.out).1.below hq, (ST.out).2.trans (hq.mono (ST.out).2.size)⟩
          have HS2 : ¬ 600 < x.2.1.size → Hid (∀ i x, i < j + 1 → l[i]? = some x → x.2.1.size ≤ 600) := fun hb => hide (fun i y hi hy => by
            by_cases e : i = j
            · subst e; rw [hxj] at hy; cases hy; omega
            · exact HS.out i y (by omega) hy)
          have d2 : (wr.alloc (.cells #[.int .i64 x.1.1, .int .i64 x.1.2, .string x.2.1, .string x.2.2] 25)).cell? ⟨wr.heap.size, 2, none⟩ = some (.string x.2.1) := by rw [Lib.cell_of_heap (heap_alloc_new wr _)]; rfl
          have c9 := (CL.out) _ (ST2.out).2
          have C9 := hide c9
          have HS3 := hide HS2
          clear hc hsl hxj hq HS2 HS c9
          by_cases hbig : 600 < x.2.1.size
          · have hbg : (600 : Int) < (x.2.1.size : Int) := by omega
            clear ST HS3 CL hbig
            go_wp2_with fail
            refine Calls.mono C9.out ?_
            rintro e w1 ⟨rfl, hb⟩
            have HB := hide ((ST2.out).2.trans (hb.mono (ST2.out).2.size))
            clear hb ST2
            go_wp2_with fail
            go_ret
            exact ⟨rfl, HB.out⟩
          · have hbg : ¬ (600 : Int) < (x.2.1.size : Int) := by omega
            have HS4 := (HS3.out) hbig
            clear ST HS3 hbig C9
            go_wp2_with fail
            go_roundw
            case rel => exact ⟨j + 1, by omega, by go_num, ST2, HS4⟩
            case measure => simp [intOf]; omega
      · have hji : ¬ (j : Int) < (L0 : Int) := by omega
        have hts : ∀ p : Int, (tkV l p).2.1.size ≤ 600 := fun p => by
          unfold tkV
          split
          · decide
          · rw [List.getD]
            cases hg : l[p.toNat]? with
            | none => decide
            | some x => exact HS.out p.toNat x (by have := HL0.out; have := (List.getElem?_eq_some_iff.1 hg).1; omega) hg
        have hsh : ShortT l := ⟨by have := HL0.out; omega, fun p => by have := hts p; omega⟩
        have c1 := read8_anyT l at_ _ wr (ST.out).1 hsh (fun p => by have := hts p; omega)
        have c2 := fun w' (hb : Below wr.heap.size wr w') => rread8_any l at_ _ w' ((ST.out).1.below hb) hsh (fun p => by have := hts p; omega)
        have hok := ok_of_sm (readA_sm l at_)
        generalize readA l at_ = RA at *
        obtain ⟨rs, jx, ex⟩ := RA
        simp only at c1 c2 hok
        have C1 := hide c1
        have C2 := hide c2
        have HOK := hide hok
        have HB0 := hide (ST.out).2
        clear c1 c2 hok hts hsh HS ST HL0
        go_wp2_with fail
        refine Calls.mono C1.out ?_
        rintro e w1 ⟨hb1, u1, rfl, hr1⟩
        have c2 := (C2.out) w1 hb1
        have C3 := hide c2
        have HB1 := hide ((HB0.out).trans (hb1.mono (HB0.out).size))
        have HR1 := hide hr1
        clear c2 C2 C1 hb1 HB0 hr1
        go_wp2_with fail
        refine Calls.mono C3.out ?_
        rintro e w2 ⟨hb2, u2, rfl, hr2⟩
        have c4 := rsame_eq rs u1 u2 w2 ((HR1.out).below hb2) hr2 HOK.out
        have C4 := hide c4
        have HB2 := hide ((HB1.out).trans (hb2.mono (HB1.out).size))
        clear c4 C3 hb2 hr2 HB1 HR1 HOK
        go_wp2_with fail
        refine Calls.mono C4.out ?_
        rintro e w3 ⟨rfl, hb3⟩
        have HB3 := hide ((HB2.out).trans (hb3.mono (HB2.out).size))
        have c5 := (CL.out) w3 HB3.out
        have C5 := hide c5
        clear hb3 C4 HB2 c5 CL
        go_wp2_with fail
        refine Calls.mono C5.out ?_
        rintro e w4 ⟨rfl, hb4⟩
        have HB4 := hide ((HB3.out).trans (hb4.mono (HB3.out).size))
        clear hb4
        go_wp2_with fail
        go_ret
        exact ⟨by simp, HB4.out⟩

end Go.Proofs.Ytogmifomamgkpaa

/- Words that come in. -/
namespace Go.Proofs.Ytogmifomamgkpaa
open Go Go.ChangeShapes Go.WideShapes Go.RowKit

theorem cl_tk : Try.prog.cellsOf 25 = 4 := by kernel_rfl

theorem cl_int6 : Try.prog.cellsOf 3 = 1 := by kernel_rfl

theorem cl_str6 : Try.prog.cellsOf 9 = 1 := by kernel_rfl

section

variable {H : Type} {enc : TypeId × Value → H} {w : World} {base : Nat} {spare : Nat → Bool} {held : Bool}

/-- A word as data. -/
def tkD (x : Tk) : DataW H := .agg [.lit (.int .i64 x.1.1), .lit (.int .i64 x.1.2), .lit (.string x.2.1.data.toList), .lit (.string x.2.2.data.toList)]

set_option maxRecDepth 100000 in
/-- The parts of a word. -/
theorem trod_tk {fuel : Nat} {cs : List Value} {y : DataW H × List MemPlace} (h : DataW.trod enc Try.prog w base spare held fuel 25 cs = some y) :
    ∃ x : Tk, cs = [.int .i64 x.1.1, .int .i64 x.1.2, .string x.2.1, .string x.2.2] ∧ y = (tkD x, []) ∧ (Lit.int .i64 x.1.1).wf = true ∧ (Lit.int .i64 x.1.2).wf = true ∧ x.2.1.size ≤ maxLen ∧ x.2.2.size ≤ maxLen := by
  obtain ⟨xs, m, rfl, rfl, hl, hx, hf⟩ := DataW.trod_struct Try.underlying25 h
  rw [cl_tk] at hl
  have h0 : DataW.trod enc Try.prog w base spare held m 3 ((cs.drop 0).take (Try.prog.cellsOf 3)) = xs[0]? := hf 0 _ rfl
  have h1 : DataW.trod enc Try.prog w base spare held m 3 ((cs.drop 1).take (Try.prog.cellsOf 3)) = xs[1]? := hf 1 _ rfl
  have h2 : DataW.trod enc Try.prog w base spare held m 9 ((cs.drop 2).take (Try.prog.cellsOf 9)) = xs[2]? := hf 2 _ rfl
  have h3 : DataW.trod enc Try.prog w base spare held m 9 ((cs.drop 3).take (Try.prog.cellsOf 9)) = xs[3]? := hf 3 _ rfl
  rw [cl_int6] at h0 h1
  rw [cl_str6] at h2 h3
  match cs, hl with
  | [c0, c1, c2, c3], _ =>
    match xs, hx with
    | [x0, x1, x2, x3], _ =>
      obtain ⟨k, e0, f0, g0⟩ := DataW.trod_int Try.underlying3 h0
      obtain ⟨n, e1, f1, g1⟩ := DataW.trod_int Try.underlying3 h1
      obtain ⟨s, e2, f2, g2⟩ := DataW.trod_string Try.underlying9 h2
      obtain ⟨t, e3, f3, g3⟩ := DataW.trod_string Try.underlying9 h3
      simp at e0 e1 e2 e3
      subst e0 e1 e2 e3 f0 f1 f2 f3
      exact ⟨((k, n), s, t), rfl, rfl, g0, g1, g2, g3⟩

set_option maxRecDepth 100000 in
/-- A word's reading asks nothing of memory. -/
theorem trod_tk_any {w' : World} {n : Nat} {cs : List Value} {y : DataW H × List MemPlace} (h : DataW.trod enc Try.prog w base spare held n 25 cs = some y) : DataW.trod enc Try.prog w' base spare held n 25 cs = some y := by
  obtain ⟨x, rfl, rfl, g0, g1, g2, g3⟩ := trod_tk h
  obtain ⟨xs, m, rfl, _, _, hx, hf⟩ := DataW.trod_struct Try.underlying25 h
  have h0 : DataW.trod enc Try.prog w base spare held m 3 [.int .i64 x.1.1] = xs[0]? := hf 0 _ rfl
  match m, h0 with
  | 0, h0 =>
    match xs, hx with
    | [_, _, _, _], _ => simp [DataW.trod] at h0
  | m + 1, _ =>
    have i1 : ∀ j : Int, (Lit.int .i64 j).wf = true → DataW.trod enc Try.prog w' base spare held (m + 1) 3 [.int .i64 j] = some (.lit (.int .i64 j), []) := fun j hj => by simp [DataW.trod, Try.underlying3, hj]
    have i2 : ∀ s : ByteArray, s.size ≤ maxLen → DataW.trod enc Try.prog w' base spare held (m + 1) 9 [.string s] = some (.lit (.string s.data.toList), []) := fun s hs => by simp [DataW.trod, Try.underlying9, hs]
    unfold DataW.trod
    rw [Try.underlying25 ]
    simp [cl_tk, cl_int6, cl_str6, i1 _ g0, i1 _ g1, i2 _ g2, i2 _ g3, tkD]

theorem mapM_mono {α β : Type} {f g : α → Option β} : ∀ {l : List α} {r : List β}, (∀ x ∈ l, ∀ y, f x = some y → g x = some y) → l.mapM f = some r → l.mapM g = some r
  | [], r, _, h => by simpa using h
  | x :: l, r, hm, h => by
    simp only [List.mapM_cons, Option.bind_eq_bind, Option.bind_eq_some_iff, Option.pure_def, Option.some.injEq] at h ⊢
    obtain ⟨y, hy, r', hr', rfl⟩ := h
    exact ⟨y, hm x (by simp) y hy, r', mapM_mono (fun z hz => hm z (by simp [hz])) hr', rfl⟩

theorem cells_mono {w' : World} {a : Addr} {n : Nat} {cs : List Value} (hb : RowKit.Below w.heap.size w w') (hn : 0 < n) (h : w.cells? base a n = some cs) : w'.cells? base a n = some cs := by
  have hlt := World.cells?_block h hn
  unfold World.cells? at h ⊢
  split at h
  · rw [if_pos ‹_›]
    exact mapM_mono (fun i _ y hy => by rw [hb.cell (p := a.add i) (by unfold Addr.add; split <;> exact hlt)]; exact hy) h
  · cases h

set_option maxRecDepth 100000 in
theorem trod_tks_below {w' : World} {fuel : Nat} {cs : List Value} {x : DataW H × List MemPlace} (hb : RowKit.Below w.heap.size w w') (h : DataW.trod enc Try.prog w base spare held fuel 22 cs = some x) : DataW.trod enc Try.prog w' base spare held fuel 22 cs = some x := by
  rcases DataW.trod_slice Try.underlying22 h with ⟨rfl, rfl⟩ | ⟨a, len, cap, elems, rest, n, rfl, rfl, rfl, _⟩
  · cases fuel with
    | zero => simp [DataW.trod] at h
    | succ n => simp [DataW.trod, Try.underlying22 ]
  · have el : ∀ i y, (w.cells? base (a.add (i * Try.prog.cellsOf 25)) (Try.prog.cellsOf 25)).bind (DataW.trod enc Try.prog w base spare held n 25) = some y →
        (w'.cells? base (a.add (i * Try.prog.cellsOf 25)) (Try.prog.cellsOf 25)).bind (DataW.trod enc Try.prog w' base spare held n 25) = some y := by
      intro i y hy
      rw [Option.bind_eq_some_iff] at hy ⊢
      obtain ⟨cs, h1, h2⟩ := hy
      exact ⟨cs, cells_mono hb (by rw [cl_tk]; decide) h1, trod_tk_any h2⟩
    unfold DataW.trod at h ⊢
    rw [Try.underlying22 ] at h ⊢
    simp only at h ⊢
    split at h
    · rename_i hg
      rw [if_pos hg]
      simp only [Option.bind_eq_some_iff, Option.map_eq_some_iff] at h ⊢
      obtain ⟨es, he, rs, hr, hd⟩ := h
      refine ⟨es, mapM_mono (fun i _ y hy => el i y hy) he, rs, ?_, hd⟩
      split at hr
      · rename_i hs
        rw [if_pos hs]
        exact mapM_mono (fun j _ y hy => el _ y hy) hr
      · rename_i hs
        rw [if_neg hs]
        exact hr
    · cases h

set_option maxRecDepth 100000 in
theorem okw_slice {r : Reach} {b0 : Nat} {v : Value} (hval : Value.okWide Try.prog w r b0 22 v) : v.cells.toList = [v] := by
  unfold Value.okWide at hval
  rw [Try.underlying22 ] at hval
  cases v <;> simp_all [Cell.okWide, Cell.ok, Value.cells]

set_option maxRecDepth 100000 in
/-- Words that come in, and that they read behind the call as they did. -/
theorem open_tks {r : Reach} {b0 : Nat} {v : Value} {d : DataW H} {ps : List MemPlace} (hval : Value.okWide Try.prog w r b0 22 v) (hd : DataW.Trod enc Try.prog w base spare held 22 v d ps) :
    ∃ l : List Tk, Tks w v l ∧ l.length ≤ maxLen ∧ (∀ x ∈ l, x.2.1.size ≤ maxLen ∧ x.2.2.size ≤ maxLen) ∧ ∀ w', RowKit.Below w.heap.size w w' → DataW.Trod enc Try.prog w' base spare held 22 v d ps := by
  obtain ⟨fuel, hf⟩ := hd
  have hk : ∀ w', RowKit.Below w.heap.size w w' → DataW.Trod enc Try.prog w' base spare held 22 v d ps := fun w' hb => ⟨fuel, trod_tks_below hb hf⟩
  rw [okw_slice hval] at hf
  rcases DataW.trod_slice Try.underlying22 hf with ⟨hv, _⟩ | ⟨a, len, cap, elems, rest, n, _, hv, _, _, hlc, hm, hlen, hel, _, _⟩
  · simp at hv
    exact ⟨[], ⟨.inl ⟨rfl, _, _, hv⟩⟩, by simp, by simp, hk⟩
  · simp at hv
    have each : ∀ i, i < len → ∃ x : Tk, w.cells? base (a.add (i * 4)) 4 = some [.int .i64 x.1.1, .int .i64 x.1.2, .string x.2.1, .string x.2.2] ∧ x.2.1.size ≤ maxLen ∧ x.2.2.size ≤ maxLen := by
      intro i hi
      have h1 := hel i hi
      rw [List.getElem?_eq_getElem (by omega), Option.bind_eq_some_iff, cl_tk] at h1
      obtain ⟨cs, h2, h3⟩ := h1
      obtain ⟨x, rfl, _, _, _, g2, g3⟩ := trod_tk h3
      exact ⟨x, h2, g2, g3⟩
    let f : Nat → Tk := fun i => if h : i < len then (each i h).choose else ((0, 0), ⟨#[]⟩, ⟨#[]⟩)
    have hf2 : ∀ i, i < len → w.cells? base (a.add (i * 4)) 4 = some [.int .i64 (f i).1.1, .int .i64 (f i).1.2, .string (f i).2.1, .string (f i).2.2] ∧ (f i).2.1.size ≤ maxLen ∧ (f i).2.2.size ≤ maxLen := by
      intro i hi
      have := (each i hi).choose_spec
      simpa [f, hi] using this
    refine ⟨(List.range len).map f, ⟨?_⟩, by simp; omega, ?_, hk⟩
    · by_cases h0 : len = 0
      · subst h0
        exact .inl ⟨rfl, _, _, hv⟩
      · obtain ⟨b, off, spot⟩ := a
        have hc0 := (World.cells?_some (hf2 0 (by omega)).1).2.2 0 (by decide)
        have hspot : spot = none := by
          have : w.cell? (⟨b, off, spot⟩ : Addr) = some (.int .i64 (f 0).1.1) := by simpa [Addr.add] using hc0
          exact World.cell?_spot this
        subst hspot
        have hlt : b < w.heap.size := World.cells?_block (a := (⟨b, off, none⟩ : Addr)) (n := 4) (by simpa [Addr.add] using (hf2 0 (by omega)).1) (by decide)
        refine .inr ⟨b, off, cap, by simpa using hv, hlt, fun i x hx => ?_⟩
        have hi : i < len := by have := (List.getElem?_eq_some_iff.1 hx).1; simpa using this
        have hxe : x = f i := by simp [hi] at hx; exact hx.symm
        subst hxe
        have hcc := (World.cells?_some (hf2 i hi).1).2.2
        have hadd : ∀ k, ((⟨b, off, none⟩ : Addr).add (i * 4)).add k = ⟨b, off + i * 4 + k, none⟩ := fun k => by
          unfold Addr.add
          split <;> split <;> simp_all
        have k0 := hcc 0 (by decide)
        have k1 := hcc 1 (by decide)
        have k2 := hcc 2 (by decide)
        have k3 := hcc 3 (by decide)
        rw [hadd] at k0 k1 k2 k3
        exact ⟨k0, k1, k2, k3⟩
    · intro x hx
      simp at hx
      obtain ⟨i, hi, rfl⟩ := hx
      exact (hf2 i hi).2
end

end Go.Proofs.Ytogmifomamgkpaa
