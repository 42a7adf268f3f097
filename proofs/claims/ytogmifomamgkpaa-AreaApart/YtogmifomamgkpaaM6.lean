/- The texts that this proof stands on, part 6 of 6. -/
import Derived.Test.YtogmifomamgkpaaM5
import Derived.Test.YtogmifomamgkpaaM4
import Derived.OpenShut
import Derived.ChangeArms

/- The chapter's examples of areas. -/
namespace Go.Proofs.Ytogmifomamgkpaa
open Go.RowKit

set_option maxRecDepth 100000 in
set_option maxHeartbeats 4000000 in
theorem words8_any (s : ByteArray) (w : World) (hs : s.size ≤ 65536) (hm : MaxAt w) :
    Calls Try.prog 12 #[.string s] w fun e w' => Below w.heap.size w w' ∧ WordsR s e w' := by
  have hcv := Lib.run_convert_string_bytes (P := Try.prog) w 9 59 5 s Try.underlying9 Try.underlying59 Try.underlying5
  have ct := fun c => tokS_any s c w hs hm
  have CT := hide ct
  clear ct hm
  unfold WordsR
  cases ht : tokV s with
  | error x =>
    have HT := hide ht
    clear ht
    go_enter Try.func12, Try.ntmps12
    go_wp2_with fail
    refine Calls.mono (unhide CT _) ?_
    rintro e w1 ⟨hb, hr⟩
    rw [HT.out] at hr
    obtain ⟨xa, xe⟩ := x
    obtain rfl : e = _ := hr
    clear CT HT
    go_wp2_with fail
    go_ret
    exact ⟨hb, rfl⟩
  | ok l =>
    have HT := hide ht
    clear ht
    go_enter Try.func12, Try.ntmps12
    go_wp2_with fail
    refine Calls.mono (unhide CT _) ?_
    rintro e w1 ⟨hb, hr⟩
    rw [HT.out] at hr
    obtain ⟨v, rfl, hown⟩ := hr
    have hn : 0 < l.length := by
      have ht := HT.out
      unfold tokV at ht
      split at ht
      · cases ht
      · split at ht
        · cases ht
        · split at ht
          · cases ht
          · cases ht; simp
    have HX := hide (tks_own hown hn)
    obtain ⟨ao, cap, rfl⟩ : ∃ ao cap, v = .slice ao l.length cap := by
      rcases hown.2 with ⟨hv, h0⟩ | ⟨g, cap, cur, hv, _⟩
      · exact ⟨none, 0, by rw [h0]; exact hv⟩
      · exact ⟨_, _, hv⟩
    clear CT HT hown hn
    go_wp2_with fail
    go_ret
    exact ⟨hb, _, rfl, HX.out⟩

def aw1 : List Tk := [((6, 0), ⟨#[97, 32, 97, 32, 46]⟩, ⟨#[]⟩), ((6, 8), ⟨#[98, 32, 46, 32, 46, 46]⟩, ⟨#[]⟩), ((8, 16), ⟨#[]⟩, ⟨#[]⟩)]

theorem at1 : tokV ⟨#[34, 97, 32, 97, 32, 46, 34, 32, 34, 98, 32, 46, 32, 46, 46, 34]⟩ = .ok [(⟨6, ⟨#[97, 32, 97, 32, 46]⟩, ⟨#[]⟩⟩, 0), (⟨6, ⟨#[98, 32, 46, 32, 46, 46]⟩, ⟨#[]⟩⟩, 8), (⟨8, ⟨#[]⟩, ⟨#[]⟩⟩, 16)] := by kernel_rfl

def ar1 : List (List ByteArray) := [[⟨#[97]⟩, ⟨#[97]⟩, ⟨#[]⟩], [⟨#[98]⟩, ⟨#[]⟩, ⟨#[]⟩]]

theorem ard1 : readA aw1 0 = (ar1, 2, 0) := by decide +kernel

theorem arr1 : rectsA ar1 = [⟨⟨#[97]⟩, 0, 0, 1, 2, 2⟩, ⟨⟨#[98]⟩, 1, 0, 1, 1, 1⟩] := by kernel_rfl

def aw2 : List Tk := [((6, 0), ⟨#[97, 32, 98]⟩, ⟨#[]⟩), ((6, 6), ⟨#[98, 32, 97]⟩, ⟨#[]⟩), ((8, 11), ⟨#[]⟩, ⟨#[]⟩)]

theorem at2 : tokV ⟨#[34, 97, 32, 98, 34, 32, 34, 98, 32, 97, 34]⟩ = .ok [(⟨6, ⟨#[97, 32, 98]⟩, ⟨#[]⟩⟩, 0), (⟨6, ⟨#[98, 32, 97]⟩, ⟨#[]⟩⟩, 6), (⟨8, ⟨#[]⟩, ⟨#[]⟩⟩, 11)] := by kernel_rfl

theorem ard2 : readA aw2 0 = ([], 0, 50) := by decide +kernel

theorem as1 : Short aw1 := ⟨by decide, by decide⟩

theorem as2 : Short aw2 := ⟨by decide, by decide⟩

theorem txt_small {l : List Tk} (h : ∀ x ∈ l, x.2.1.size ≤ 900000) (i : Int) : (tkV l i).2.1.size ≤ 900000 := by
  unfold tkV
  split
  · exact Nat.le_of_ble_eq_true rfl
  · by_cases hi : i.toNat < l.length
    · rw [List.getD, List.getElem?_eq_getElem hi]
      exact h _ (List.getElem_mem hi)
    · rw [List.getD, List.getElem?_eq_none (by omega)]
      exact Nat.le_of_ble_eq_true rfl

theorem arOk : OkRs ar1 := ⟨by decide, by decide⟩

end Go.Proofs.Ytogmifomamgkpaa

/- The chapter's examples of areas, walked. -/
namespace Go.Proofs.Ytogmifomamgkpaa
open Go.RowKit

theorem aw1_small : ∀ x ∈ aw1, x.2.1.size ≤ 900000 := by decide

theorem aw2_small : ∀ x ∈ aw2, x.2.1.size ≤ 900000 := by decide

theorem words_a1 (w : World) (hm : MaxAt w) : Calls Try.prog 12 #[.string ⟨#[34, 97, 32, 97, 32, 46, 34, 32, 34, 98, 32, 46, 32, 46, 46, 34]⟩] w fun e w' => Below w.heap.size w w' ∧ ∃ v, e = .returned v ∧ Tks w' v aw1 := by
  refine (words8_any _ w (by decide) hm).mono ?_
  rintro e w' ⟨h1, h2⟩
  unfold WordsR at h2
  rw [at1] at h2
  exact ⟨h1, h2⟩

theorem words_a2 (w : World) (hm : MaxAt w) : Calls Try.prog 12 #[.string ⟨#[34, 97, 32, 98, 34, 32, 34, 98, 32, 97, 34]⟩] w fun e w' => Below w.heap.size w w' ∧ ∃ v, e = .returned v ∧ Tks w' v aw2 := by
  refine (words8_any _ w (by decide) hm).mono ?_
  rintro e w' ⟨h1, h2⟩
  unfold WordsR at h2
  rw [at2] at h2
  exact ⟨h1, h2⟩

theorem read_a1 (v : Value) (w : World) (h : Tks w v aw1) : Calls Try.prog 6 #[v, .int .i64 0] w fun e w' => Below w.heap.size w w' ∧ ∃ u, e = .returned (.tuple #[u, .int .i64 2, .int .i64 0]) ∧ Rws w' u ar1 := by
  have := read8_any aw1 0 v w h as1 (txt_small aw1_small)
  rw [ard1] at this
  exact this

theorem read_a2 (v : Value) (w : World) (h : Tks w v aw2) : Calls Try.prog 6 #[v, .int .i64 0] w fun e w' => Below w.heap.size w w' ∧ ∃ u, e = .returned (.tuple #[u, .int .i64 0, .int .i64 50]) ∧ Rws w' u [] := by
  have := read8_any aw2 0 v w h as2 (txt_small aw2_small)
  rw [ard2] at this
  exact this

theorem rects_a1 (v : Value) (w : World) (h : Rws w v ar1) : Calls Try.prog 11 #[v] w fun e w' => Below w.heap.size w w' ∧ ∃ g cap, e = .returned (.slice (some ⟨g, 0, none⟩) 2 cap) ∧ w'.cell? ⟨g, 0, none⟩ = some (.string ⟨#[97]⟩) ∧ w'.cell? ⟨g, 1, none⟩ = some (.int .i64 0) ∧ w'.cell? ⟨g, 2, none⟩ = some (.int .i64 0) ∧ w'.cell? ⟨g, 3, none⟩ = some (.int .i64 1) ∧ w'.cell? ⟨g, 4, none⟩ = some (.int .i64 2) ∧ w'.cell? ⟨g, 5, none⟩ = some (.string ⟨#[98]⟩) ∧ w'.cell? ⟨g, 6, none⟩ = some (.int .i64 1) ∧ w'.cell? ⟨g, 7, none⟩ = some (.int .i64 0) ∧ w'.cell? ⟨g, 8, none⟩ = some (.int .i64 1) ∧ w'.cell? ⟨g, 9, none⟩ = some (.int .i64 1) := by
  have := rects8_any ar1 v w h arOk
  rw [arr1] at this
  refine this.mono ?_
  rintro e w' ⟨h1, u, rfl, hown⟩
  obtain ⟨g, cap, rfl, _⟩ := own_some8 hown (by simp)
  refine ⟨h1, g, cap, rfl, ?_⟩
  have hc := fun i (hi : i < 10) => hown.cellAt i (by simpa using hi)
  exact ⟨hc 0 (by omega), hc 1 (by omega), hc 2 (by omega), hc 3 (by omega), hc 4 (by omega), hc 5 (by omega), hc 6 (by omega), hc 7 (by omega), hc 8 (by omega), hc 9 (by omega)⟩

theorem tks_slice8 {w : World} {v : Value} {l : List Tk} (h : Tks w v l) : ∃ ao n cap, v = .slice ao n cap := by
  rcases h.val with ⟨_, ao, cap, h⟩ | ⟨b, off, cap, h, _⟩
  · exact ⟨_, _, _, h⟩
  · exact ⟨_, _, _, h⟩

theorem rws_slice8 {w : World} {v : Value} {rs : List (List ByteArray)} (h : Rws w v rs) : ∃ ao n cap, v = .slice ao n cap := by
  rcases h.val with ⟨_, ao, cap, h⟩ | ⟨b, off, cap, h, _⟩
  · exact ⟨_, _, _, h⟩
  · exact ⟨_, _, _, h⟩

set_option maxRecDepth 100000 in
set_option maxHeartbeats 8000000 in
theorem lives8_any (w : World) (hm : MaxAt w) : Calls Try.prog 5 #[] w fun e w' => e = .returned (.bool true) ∧ Below w.heap.size w w' := by
  have C1 := hide (words_a1 w hm)
  have HM := hide hm
  clear hm
  go_enter Try.func5, Try.ntmps5
  go_wp2_with fail
  refine Calls.mono C1.out ?_
  rintro e wa ⟨ha, v, rfl, ht⟩
  have C2 := hide (read_a1 v wa ht)
  obtain ⟨ao, n0, cap, rfl⟩ := tks_slice8 ht
  have HA := hide ha
  clear ha ht C1
  go_wp2_with fail
  refine Calls.mono C2.out ?_
  rintro e wb ⟨hb, u, rfl, hr⟩
  have HB := hide ((HA.out).trans (hb.mono (HA.out).size))
  have C3 := hide (words_a2 wb ((HM.out).below HB.out))
  have HR := hide hr
  obtain ⟨ro, rn, rc, rfl⟩ := rws_slice8 hr
  clear hb hr C2 HA
  go_wp2_with fail
  refine Calls.mono C3.out ?_
  rintro e wc ⟨hc, v2, rfl, ht2⟩
  have C4 := hide (read_a2 v2 wc ht2)
  have HR2 := hide ((HR.out).below hc)
  have HC := hide ((HB.out).trans (hc.mono (HB.out).size))
  obtain ⟨ao2, n2, cap2, rfl⟩ := tks_slice8 ht2
  clear hc ht2 C3 HB HR
  go_wp2_with fail
  refine Calls.mono C4.out ?_
  rintro e wd ⟨hd, u2, rfl, hr2⟩
  have C5 := hide (rects_a1 _ wd ((HR2.out).below hd))
  have HD := hide ((HC.out).trans (hd.mono (HC.out).size))
  obtain ⟨ro2, rn2, rc2, rfl⟩ := rws_slice8 hr2
  clear hd hr2 C4 HC HR2
  go_wp2_with fail
  refine Calls.mono C5.out ?_
  rintro e we ⟨he, g, gc, rfl, c0, c1, c2, c3, c4, c5, c6, c7, c8, c9⟩
  have HE := hide ((HD.out).trans (he.mono (HD.out).size))
  clear he C5 HD
  go_wp2_with fail
  go_ret
  exact ⟨rfl, HE.out⟩

end Go.Proofs.Ytogmifomamgkpaa

/- ref08.Same of rows that are the same, walked. -/
namespace Go.Proofs.Ytogmifomamgkpaa
open Go.RowKit

theorem rws_row8 {w : World} {ao : Option Addr} {n cap : Nat} {rs : List (List ByteArray)} (h : Rws w (.slice ao n cap) rs) (hn : n = rs.length) : ∀ i, i < rs.length → ∃ b off ua uc, ao = some ⟨b, off, none⟩ ∧ b < w.heap.size ∧ w.cell? ⟨b, off + i, none⟩ = some (.slice ua (rs.getD i []).length uc) ∧ Strs w (.slice ua (rs.getD i []).length uc) (rs.getD i []) := fun i hi => by
  subst hn
  rcases h.val with ⟨h0, _⟩ | ⟨b, off, cap', hv, hlt, hc⟩
  · rw [h0] at hi; simp at hi
  · simp only [Value.slice.injEq] at hv
    obtain ⟨u, h1, h2⟩ := hc i (rs.getD i []) (by rw [List.getD, List.getElem?_eq_getElem hi]; rfl)
    obtain ⟨ua, uc, rfl⟩ := h2.slice
    exact ⟨b, off, ua, uc, hv.1, hlt, h1, h2⟩

theorem strs_cell8 {w : World} {ao : Option Addr} {cap n : Nat} {xs : List ByteArray} (h : Strs w (.slice ao n cap) xs) : ∀ i, i < xs.length → ∃ b off, ao = some ⟨b, off, none⟩ ∧ b < w.heap.size ∧ w.cell? ⟨b, off + i, none⟩ = some (.string (xs.getD i ByteArray.empty)) := fun i hi => by
  rcases h.val with ⟨h0, _⟩ | ⟨b, off, cap', hv, hlt, hc⟩
  · rw [h0] at hi; simp at hi
  · simp only [Value.slice.injEq] at hv
    exact ⟨b, off, hv.1, hlt, hc i _ (by rw [List.getD, List.getElem?_eq_getElem hi]; rfl)⟩

set_option maxRecDepth 100000 in
set_option maxHeartbeats 16000000 in
theorem rsame_eq (rs : List (List ByteArray)) (va vb : Value) (w : World) (ha : Rws w va rs) (hb : Rws w vb rs) (ho : OkRs rs) :
    Calls Try.prog 8 #[va, vb] w fun e w' => e = .returned (.bool true) ∧ Below w.heap.size w w' := by
  obtain ⟨aa, ca, rfl⟩ : ∃ ao cap, va = .slice ao rs.length cap := by
    rcases ha.val with ⟨h0, ao, cap, h⟩ | ⟨b, off, cap, h, _⟩
    · exact ⟨ao, cap, by rw [h0]; exact h⟩
    · exact ⟨_, _, h⟩
  obtain ⟨ab, cb, rfl⟩ : ∃ ao cap, vb = .slice ao rs.length cap := by
    rcases hb.val with ⟨h0, ao, cap, h⟩ | ⟨b, off, cap, h, _⟩
    · exact ⟨ao, cap, by rw [h0]; exact h⟩
    · exact ⟨_, _, h⟩
  have hra := rws_row8 ha rfl
  have hrb := rws_row8 hb rfl
  have hlr : ∀ i, i < rs.length → (rs.getD i []).length ≤ 1000000 := fun i hi => by rw [List.getD, List.getElem?_eq_getElem hi]; exact (ho.2 _ (List.getElem_mem hi)).1
  have hl := ho.1
  have HRA := hide hra
  have HRB := hide hrb
  have HLR := hide hlr
  obtain ⟨N, hN⟩ : ∃ N, N = rs.length := ⟨_, rfl⟩
  rw [← hN] at HRA HRB HLR hl ⊢
  clear hra hrb hlr ha hb ho hN
  go_enter Try.func8, Try.ntmps8
  go_wp2_with fail
  go_loopw [5] (fun i wr => ∃ k : Nat, k ≤ N ∧ i = .int .i64 (k : Int) ∧ Hid (Below w.heap.size w wr)) (fun i _ => (N - intOf i).toNat)
  case atStart => exact ⟨0, Nat.zero_le _, by go_num, hide (Below.refl _ _)⟩
  case round =>
    obtain ⟨k, hk, rfl, HB⟩ := hrel
    by_cases hkl : k < N
    · have hki : (k : Int) < (N : Int) := by omega
      obtain ⟨b1, o1, u1, v1, rfl, hb1, c1, s1⟩ := (HRA.out) k hkl
      obtain ⟨b2, o2, u2, v2, rfl, hb2, c2, s2⟩ := (HRB.out) k hkl
      have hlk := (HLR.out) k hkl
      generalize rs.getD k [] = row at *
      have d1 := ((HB.out).cell (p := ⟨b1, o1 + k, none⟩) hb1).trans c1
      have d2 := ((HB.out).cell (p := ⟨b2, o2 + k, none⟩) hb2).trans c2
      have HS1 := hide (strs_cell8 s1)
      have HS2 := hide (strs_cell8 s2)
      obtain ⟨M, hM⟩ : ∃ M, M = row.length := ⟨_, rfl⟩
      rw [← hM] at HS1 HS2 hlk c1 c2 d1 d2
      have HC1 := hide c1
      have HC2 := hide c2
      clear s1 s2 hM HRA HRB HLR c1 c2
      go_wp2_with fail
      go_region
      go_wp2_with fail
      have HB0 := hide (HB.out).drew
      clear d1 d2
      go_loopw [6] (fun i wx => ∃ j : Nat, j ≤ M ∧ i = .int .i64 (j : Int) ∧ Hid (Below w.heap.size w wx)) (fun i _ => (M - intOf i).toNat)
      case atStart => exact ⟨0, Nat.zero_le _, by go_num, HB0⟩
      case round =>
        clear HB HB0
        obtain ⟨j, hj, rfl, HB⟩ := hrel
        have d1 := ((HB.out).cell (p := ⟨b1, o1 + k, none⟩) hb1).trans HC1.out
        have d2 := ((HB.out).cell (p := ⟨b2, o2 + k, none⟩) hb2).trans HC2.out
        by_cases hjl : j < M
        · have hji : (j : Int) < (M : Int) := by omega
          obtain ⟨b3, o3, rfl, hb3, c3⟩ := (HS1.out) j hjl
          obtain ⟨b4, o4, rfl, hb4, c4⟩ := (HS2.out) j hjl
          have d3 := ((HB.out).cell (p := ⟨b3, o3 + j, none⟩) hb3).trans c3
          have d4 := ((HB.out).cell (p := ⟨b4, o4 + j, none⟩) hb4).trans c4
          generalize row.getD j ByteArray.empty = s at *
          clear c3 c4
          go_wp2_with fail
          go_region
          go_wp2_with fail
          go_roundw
          case rel => exact ⟨j + 1, by omega, by go_num, hide (HB.out).drew⟩
          case measure => simp [intOf]; omega
        · have hji : ¬ (j : Int) < (M : Int) := by omega
          go_wp2_with fail
          go_roundw
          case rel => exact ⟨k + 1, by omega, by go_num, HB⟩
          case measure => simp [intOf]; omega
    · have hki : ¬ (k : Int) < (N : Int) := by omega
      go_wp2_with fail
      go_ret
      exact ⟨rfl, HB.out⟩

end Go.Proofs.Ytogmifomamgkpaa

/- ref08.row, walked. -/
namespace Go.Proofs.Ytogmifomamgkpaa
open Go.RowKit

set_option maxRecDepth 100000 in
set_option maxHeartbeats 8000000 in
theorem rrow_any (s : ByteArray) (n m : Nat) (w : World) (hn : n ≤ 64) (hs : s.size ≤ 900000) :
    Calls Try.prog 19 #[.string s, .int .i64 (n : Int), .int .i64 (m : Int)] w fun e w' => Below w.heap.size w w' ∧ NextE w (rowV n m s) e w' := by
  have cc := rcells_any s w (by omega)
  have hcv : ∀ xs, cellsV s 0 = some xs → (∀ x ∈ xs, x.size ≤ s.size) ∧ xs.length ≤ s.size + 1 := fun xs h => cells_small (s := s) (s.size + 1) 0 (xs := xs) h
  have hrv : rowV n m s = match cellsV s 0 with
    | none => .error 50
    | some cs => if n = 64 ∨ 64 < cs.length ∨ cs.any longB = true then .error 52 else if cs.length = 0 ∨ (0 < n ∧ ¬ cs.length = m) then .error 50 else .ok cs := rfl
  generalize rowV n m s = RV at *
  generalize cellsV s 0 = CV at *
  have CC := hide cc
  have HRV := hide hrv
  have HCV := hide hcv
  clear cc hrv hcv
  go_enter Try.func19, Try.ntmps19
  go_wp2_with fail
  refine Calls.mono CC.out ?_
  rintro e w1 ⟨hb, hE⟩
  clear CC
  cases CV with
  | none =>
    obtain rfl : e = .returned (.tuple #[.slice none 0 0, .bool false]) := hE
    have hv := HRV.out
    have HV := hide hv
    clear hv HRV HCV
    go_wp2_with fail
    go_ret2
    exact ⟨hb, by rw [HV.out]; rfl⟩
  | some cs =>
    obtain ⟨u, rfl, hown⟩ := hE
    have hst := strs_own hown
    have hc2 := (HCV.out) cs rfl
    obtain ⟨ua, uc, rfl⟩ := hst.slice
    have hv := HRV.out
    simp only at hv
    have hcl : cs.length ≤ 900001 := by omega
    have HO := hide hown
    have HC := hide (strs_cell8 hst)
    have hsx : ∀ j, j < cs.length → (cs.getD j ByteArray.empty).size ≤ 900000 := fun j hj => by rw [List.getD, List.getElem?_eq_getElem hj]; have := hc2.1 _ (List.getElem_mem hj); simp only [Option.getD_some]; omega
    have hany : ∀ j, j < cs.length → 64 < (cs.getD j ByteArray.empty).size → cs.any longB = true := fun j hj h => by
      rw [List.getD, List.getElem?_eq_getElem hj] at h
      exact List.any_eq_true.2 ⟨_, List.getElem_mem hj, by unfold longB; simpa using h⟩
    have hnot : (∀ j, j < cs.length → ¬ 64 < (cs.getD j ByteArray.empty).size) → cs.any longB = false := fun h => by
      rw [List.any_eq_false]
      intro x hx
      obtain ⟨j, hj, rfl⟩ := List.getElem_of_mem hx
      have := h j hj
      rw [List.getD, List.getElem?_eq_getElem hj] at this
      unfold longB
      simpa using this
    have HSX := hide hsx
    have HANY := hide hany
    have HNOT := hide hnot
    have HB := hide hb
    clear hst hc2 HRV HCV hown hsx hany hnot hb
    obtain ⟨q, hq⟩ : ∃ q, q = cs.length := ⟨_, rfl⟩
    rw [← hq] at hv hcl HC HSX HANY HNOT ⊢
    have HQ := hide hq
    have HV0 := hide hv
    clear hq hv
    by_cases hn4 : n = 64
    · have hnb : (64 : Int) ≤ (n : Int) := by omega
      have HV : Hid (RV = .error 52) := hide (by rw [HV0.out, if_pos (.inl hn4)])
      clear HV0 hn4
      go_wp2_with fail
      go_ret2
      exact ⟨HB.out, by rw [HV.out]; rfl⟩
    · have hnb : ¬ (64 : Int) ≤ (n : Int) := by omega
      by_cases hq6 : 64 < q
      · have hqb : (64 : Int) < (q : Int) := by omega
        have HV : Hid (RV = .error 52) := hide (by rw [HV0.out, if_pos (.inr (.inl hq6))])
        clear HV0 hn4 hq6
        go_wp2_with fail
        go_ret2
        exact ⟨HB.out, by rw [HV.out]; rfl⟩
      · have hqb : ¬ (64 : Int) < (q : Int) := by omega
        go_wp2_with fail
        go_loopw [10] (fun i wr => ∃ k : Nat, k ≤ q ∧ i = .int .i64 (k : Int) ∧ Hid (∀ j, j < k → ¬ 64 < (cs.getD j ByteArray.empty).size) ∧ wr = w1) (fun i _ => (q - intOf i).toNat)
        case atStart => exact ⟨0, Nat.zero_le _, by go_num, hide (fun j hj => by omega), rfl⟩
        case round =>
          obtain ⟨k, hk, rfl, HP, hwr⟩ := hrel
          subst wr
          by_cases hkl : k < q
          · have hki : (k : Int) < (q : Int) := by omega
            obtain ⟨b, off, rfl, hbl, cx⟩ := (HC.out) k hkl
            have hsz := (HSX.out) k hkl
            have ha := (HANY.out) k hkl
            have hp2 : ¬ 64 < (cs.getD k ByteArray.empty).size → Hid (∀ j, j < k + 1 → ¬ 64 < (cs.getD j ByteArray.empty).size) := fun hf => hide (fun j hj => by
              by_cases e : j = k
              · rw [e]; exact hf
              · exact HP.out j (by omega))
            generalize cs.getD k ByteArray.empty = z at *
            have HA := hide ha
            have HP2 := hide hp2
            clear ha hp2
            by_cases hz : 64 < z.size
            · have hzb : (64 : Int) < (z.size : Int) := by omega
              have HV : Hid (RV = .error 52) := hide (by rw [HV0.out, if_pos (.inr (.inr ((HA.out) hz)))])
              clear HV0 hz HA HP2 HP
              go_wp2_with fail
              go_ret2
              exact ⟨HB.out, by rw [HV.out]; rfl⟩
            · have hzb : ¬ (64 : Int) < (z.size : Int) := by omega
              have HP3 := (HP2.out) hz
              clear hz HA HP2 HP
              go_wp2_with fail
              go_roundw
              case rel => exact ⟨k + 1, by omega, by go_num, HP3, by first | rfl | trivial⟩
              case measure => simp [intOf]; omega
          · have hki : ¬ (k : Int) < (q : Int) := by omega
            have hnl := (HNOT.out) (fun j hj => HP.out j (by omega))
            have HV1 : Hid (RV = if q = 0 ∨ (0 < n ∧ ¬ q = m) then .error 50 else .ok cs) := hide (by rw [HV0.out, if_neg (by rw [hnl]; simp; omega)])
            clear HV0 HP hnl hk hkl HNOT HANY HSX HC
            by_cases hq0 : q = 0
            · have hqz : ((q : Int) == 0) = true := by rw [beq_iff_eq]; omega
              have HV : Hid (RV = .error 50) := hide (by rw [HV1.out, if_pos (.inl hq0)])
              clear HV1 hq0
              go_wp2_with fail
              go_ret2
              exact ⟨HB.out, by rw [HV.out]; rfl⟩
            · have hqz : ((q : Int) == 0) = false := by rw [beq_eq_false_iff_ne]; omega
              by_cases hnp : 0 < n
              · have hnpb : (0 : Int) < (n : Int) := by omega
                by_cases hqm : q = m
                · have hqmb : ((q : Int) == (m : Int)) = true := by rw [beq_iff_eq]; omega
                  have HV : Hid (RV = .ok cs) := hide (by rw [HV1.out, if_neg (by omega)])
                  clear HV1 hq0 hnp hqm
                  go_wp2_with fail
                  go_ret2
                  exact ⟨HB.out, by rw [HV.out]; exact ⟨_, rfl, by have := HO.out; rw [← HQ.out] at this ⊢; exact this⟩⟩
                · have hqmb : ((q : Int) == (m : Int)) = false := by rw [beq_eq_false_iff_ne]; omega
                  have HV : Hid (RV = .error 50) := hide (by rw [HV1.out, if_pos (.inr ⟨hnp, hqm⟩)])
                  clear HV1 hq0 hnp hqm
                  go_wp2_with fail
                  go_ret2
                  exact ⟨HB.out, by rw [HV.out]; rfl⟩
              · have hnpb : ¬ (0 : Int) < (n : Int) := by omega
                have HV : Hid (RV = .ok cs) := hide (by rw [HV1.out, if_neg (by omega)])
                clear HV1 hq0 hnp
                go_wp2_with fail
                go_ret2
                exact ⟨HB.out, by rw [HV.out]; exact ⟨_, rfl, by have := HO.out; rw [← HQ.out] at this ⊢; exact this⟩⟩

end Go.Proofs.Ytogmifomamgkpaa

/- ref08.first, walked. -/
namespace Go.Proofs.Ytogmifomamgkpaa
open Go.RowKit

def cellA (rs : List (List ByteArray)) (i k : Nat) : ByteArray := (rs.getD i []).getD k ByteArray.empty

/-- Is a cell the first one of its name? -/
def frstP (rs : List (List ByteArray)) (r c : Nat) : Prop := ∀ i k, (i < r ∧ k < (rs.getD i []).length ∨ i = r ∧ k < c) → cellA rs i k ≠ cellA rs r c

set_option maxRecDepth 100000 in
set_option maxHeartbeats 16000000 in
theorem rfirst_any (rs : List (List ByteArray)) (r c : Nat) (v : Value) (w : World) (h : Rws w v rs) (ho : OkRs rs) (hr : r < rs.length) (hc : c < (rs.getD r []).length) :
    Calls Try.prog 38 #[v, .int .i64 (r : Int), .int .i64 (c : Int)] w fun e w' => Below w.heap.size w w' ∧ ∃ B, e = .returned (.bool B) ∧ (B = true ↔ frstP rs r c) := by
  obtain ⟨ao, cap, rfl⟩ : ∃ ao cap, v = .slice ao rs.length cap := by
    rcases h.val with ⟨h0, ao, cap, h⟩ | ⟨b, off, cap, h, _⟩
    · exact ⟨ao, cap, by rw [h0]; exact h⟩
    · exact ⟨_, _, h⟩
  have hra := rws_row8 h rfl
  have hlr : ∀ i, i < rs.length → (rs.getD i []).length ≤ 1000000 := fun i hi => by rw [List.getD, List.getElem?_eq_getElem hi]; exact (ho.2 _ (List.getElem_mem hi)).1
  have hl := ho.1
  obtain ⟨b, off, ur, cr, rfl, hb, hcr, hsr⟩ := hra r hr
  obtain ⟨b9, o9, rfl, hb9, hc9⟩ := strs_cell8 hsr c hc
  have hlc := hlr r hr
  have hyes : (∀ i k, i < r → k < (rs.getD i []).length → cellA rs i k ≠ cellA rs r c) → (∀ k, k < c → cellA rs r k ≠ cellA rs r c) → frstP rs r c := fun h1 h2 i k hh => by
    rcases hh with ⟨hi, hk⟩ | ⟨rfl, hk⟩
    · exact h1 i k hi hk
    · exact h2 k hk
  have hnot : ∀ i k, (i < r ∧ k < (rs.getD i []).length ∨ i = r ∧ k < c) → cellA rs i k = cellA rs r c → ¬ frstP rs r c := fun i k hh he hf => hf i k hh he
  have hrow : ∀ i, i < rs.length → ∃ ua uc, w.cell? ⟨b, off + i, none⟩ = some (.slice ua (rs.getD i []).length uc) ∧ ∀ k, k < (rs.getD i []).length → ∃ b' o', ua = some ⟨b', o', none⟩ ∧ b' < w.heap.size ∧ w.cell? ⟨b', o' + k, none⟩ = some (.string (cellA rs i k)) := fun i hi => by
    obtain ⟨b', o', ua, uc, e, _, h1, h2⟩ := hra i hi
    simp only [Option.some.injEq, Addr.mk.injEq] at e
    obtain ⟨rfl, rfl, _⟩ := e
    exact ⟨ua, uc, h1, strs_cell8 h2⟩
  have hc9' : w.cell? ⟨b9, o9 + c, none⟩ = some (.string (cellA rs r c)) := hc9
  generalize cellA rs r c = S at *
  generalize frstP rs r c = FP at *
  have HROW := hide hrow
  have HYES := hide hyes
  have HNOT := hide hnot
  have HLR := hide hlr
  have HCR := hide hcr
  have HC9 := hide hc9'
  obtain ⟨N, hN⟩ : ∃ N, N = rs.length := ⟨_, rfl⟩
  obtain ⟨R9, hR9⟩ : ∃ R9, R9 = (rs.getD r []).length := ⟨_, rfl⟩
  have HR9 := hide hR9
  rw [← hN] at HROW HLR hl hr ⊢
  rw [← hR9] at HCR hc hlc
  clear hra hlr h ho hN hR9 hrow hyes hnot hcr hsr hc9 hc9'
  go_enter Try.func38, Try.ntmps38
  go_wp2_with fail
  go_loopw [7] (fun a wx => ∃ i : Nat, i ≤ r ∧ a = .int .i64 (i : Int) ∧ Hid (∀ i' k', i' < i → k' < (rs.getD i' []).length → cellA rs i' k' ≠ S) ∧ Hid (Below w.heap.size w wx)) (fun a _ => (r + 1 - intOf a).toNat)
  case atStart => exact ⟨0, Nat.zero_le _, by go_num, hide (fun i' k' h => by omega), hide (Below.refl _ _)⟩
  case round =>
    obtain ⟨i, hi, rfl, HI, HB⟩ := hrel
    have hib : (i : Int) ≤ (r : Int) := by omega
    obtain ⟨ua, uc, hrw, hcl⟩ := (HROW.out) i (by omega)
    have hlk := (HLR.out) i (by omega)
    have HRW := hide hrw
    have HCL := hide hcl
    obtain ⟨M, hM⟩ : ∃ M, M = (rs.getD i []).length := ⟨_, rfl⟩
    have HM := hide hM
    rw [← hM] at HRW HCL hlk
    clear hrw hcl hM HROW HLR
    go_wp2_with fail
    go_loopw [8] (fun a wx => ∃ k : Nat, k ≤ M ∧ (i = r → k ≤ c) ∧ a = .int .i64 (k : Int) ∧ Hid (∀ k', k' < k → cellA rs i k' ≠ S) ∧ Hid (Below w.heap.size w wx)) (fun a _ => (M - intOf a).toNat)
    case atStart => exact ⟨0, Nat.zero_le _, fun _ => Nat.zero_le _, by go_num, hide (fun k' h => by omega), HB⟩
    case round =>
      clear HB
      obtain ⟨k, hk, hkc, rfl, HK, HB⟩ := hrel
      have d1 := ((HB.out).cell (p := ⟨b, off + i, none⟩) hb).trans HRW.out
      have d9 := ((HB.out).cell (p := ⟨b, off + r, none⟩) hb).trans HCR.out
      have d8 := ((HB.out).cell (p := ⟨b9, o9 + c, none⟩) hb9).trans HC9.out
      by_cases hkM : k < M
      · have hkb : (k : Int) < (M : Int) := by omega
        by_cases hir : i = r ∧ c ≤ k
        · have e1 : ((i : Int) == (r : Int)) = true := by rw [beq_iff_eq]; omega
          have e2 : (c : Int) ≤ (k : Int) := by omega
          have hfin : FP := (HYES.out) (fun i' k' h1 h2 => HI.out i' k' (by omega) h2) (fun k' h' => by rw [← hir.1]; exact HK.out k' (by omega))
          have HF := hide hfin
          clear hfin hir hkc HI HK HCL
          go_wp2_with fail
          go_ret
          exact ⟨HB.out, true, rfl, ⟨fun _ => HF.out, fun _ => rfl⟩⟩
        · obtain ⟨b3, o3, rfl, hb3, c3⟩ := (HCL.out) k hkM
          have d3 := ((HB.out).cell (p := ⟨b3, o3 + k, none⟩) hb3).trans c3
          have hin : i < r ∧ k < (rs.getD i []).length ∨ i = r ∧ k < c := by
            rw [← HM.out]
            omega
          have hno := (HNOT.out) i k hin
          have hnx : cellA rs i k ≠ S → Hid (∀ k', k' < k + 1 → cellA rs i k' ≠ S) := fun hne => hide (fun k' hk' => by
            by_cases e : k' = k
            · rw [e]; exact hne
            · exact HK.out k' (by omega))
          have hkc2 : i = r → k + 1 ≤ c := by omega
          have hrb : (r : Int) < (N : Int) := by omega
          have hib2 : (i : Int) < (N : Int) := by omega
          have hcb : (c : Int) < (R9 : Int) := by omega
          generalize cellA rs i k = s at *
          have HNO := hide hno
          have HNX := hide hnx
          have HKC := hide hkc2
          clear hno hnx c3 HK hkc hkc2 hin
          have hcase : ((i : Int) == (r : Int)) = false ∨ (((i : Int) == (r : Int)) = true ∧ ¬ (c : Int) ≤ (k : Int)) := by
            rcases eqk (i : Int) (r : Int) with ⟨h1, h2⟩ | ⟨h1, h2⟩
            · exact .inr ⟨h2, by omega⟩
            · exact .inl h2
          clear hir
          by_cases hss : s = S
          · have hnf := (HNO.out) hss
            subst hss
            have HNF := hide hnf
            clear hnf HNO HNX HKC
            rcases hcase with e1 | ⟨e1, e2⟩
            · go_wp2_with fail
              go_region
              go_wp2_with fail
              go_ret
              exact ⟨(HB.out).drew, false, rfl, ⟨fun h => absurd h (by decide), fun h => absurd h HNF.out⟩⟩
            · go_wp2_with fail
              go_region
              go_wp2_with fail
              go_ret
              exact ⟨(HB.out).drew, false, rfl, ⟨fun h => absurd h (by decide), fun h => absurd h HNF.out⟩⟩
          · have HK2 := (HNX.out) hss
            have hsn : ¬ s.toList = S.toList := fun e => hss (WideShapes.bytes_inj (by rw [← ByteArray.toList_eq, ← ByteArray.toList_eq]; exact e))
            have hsb : (s.toList == S.toList) = false := by rw [beq_eq_false_iff_ne]; exact hsn
            clear HNO HNX
            rcases hcase with e1 | ⟨e1, e2⟩
            · go_wp2_with fail
              go_region
              go_wp2_with fail
              go_roundw
              case rel => exact ⟨k + 1, by omega, HKC.out, by go_num, HK2, hide (HB.out).drew⟩
              case measure => simp [intOf]; omega
            · go_wp2_with fail
              go_region
              go_wp2_with fail
              go_roundw
              case rel => exact ⟨k + 1, by omega, HKC.out, by go_num, HK2, hide (HB.out).drew⟩
              case measure => simp [intOf]; omega
      · have hkb : ¬ (k : Int) < (M : Int) := by omega
        have hkM2 : k = M := by omega
        have hlt : i < r := by
          rcases Nat.lt_or_ge i r with h | h
          · exact h
          · have e : i = r := by omega
            have h1 := hkc e
            have h2 : M = R9 := by rw [HM.out, HR9.out, e]
            omega
        have HI2 : Hid (∀ i' k', i' < i + 1 → k' < (rs.getD i' []).length → cellA rs i' k' ≠ S) := hide (fun i' k' h1 h2 => by
          by_cases e : i' = i
          · subst e; exact HK.out k' (by rw [hkM2, HM.out]; exact h2)
          · exact HI.out i' k' (by omega) h2)
        clear hkM2 hkc HI HK HCL
        go_wp2_with fail
        go_roundw
        case rel => exact ⟨i + 1, by omega, by go_num, HI2, HB⟩
        case measure => simp [intOf]; omega

end Go.Proofs.Ytogmifomamgkpaa

/- Names' cells, one behind the other: what the regions tell of them. -/
namespace Go.Proofs.Ytogmifomamgkpaa
open Go.RowKit

abbrev Tri := Nat × Nat × ByteArray

def rowT (r : Nat) : Nat → List ByteArray → List Tri
  | _, [] => []
  | c, s :: t => (r, c, s) :: rowT r (c + 1) t

def trisF : Nat → List (List ByteArray) → List Tri
  | _, [] => []
  | r, row :: t => rowT r 0 row ++ trisF (r + 1) t

def stepT (acc : List RegD) (x : Tri) : List RegD := stepR acc (x.1 : Int) (x.2.1 : Int) x.2.2

theorem rowR_fold (r : Nat) : ∀ (l : List ByteArray) (acc : List RegD) (c : Nat), rowR (r : Int) acc c l = (rowT r c l).foldl stepT acc
  | [], _, _ => rfl
  | s :: t, acc, c => by
    unfold rowR rowT
    rw [List.foldl_cons]
    exact rowR_fold r t _ (c + 1)

theorem regsF_fold : ∀ (l : List (List ByteArray)) (acc : List RegD) (r : Nat), regsF acc r l = (trisF r l).foldl stepT acc
  | [], _, _ => rfl
  | row :: t, acc, r => by
    unfold regsF trisF
    rw [List.foldl_append, ← rowR_fold]
    exact regsF_fold t _ (r + 1)

theorem mem_rowT (r : Nat) : ∀ (l : List ByteArray) (c i k : Nat) (s : ByteArray), (i, k, s) ∈ rowT r c l ↔ i = r ∧ c ≤ k ∧ k < c + l.length ∧ l.getD (k - c) ByteArray.empty = s
  | [], c, i, k, s => by
    simp only [rowT, List.not_mem_nil, List.length_nil, false_iff]
    omega
  | x :: t, c, i, k, s => by
    unfold rowT
    rw [List.mem_cons, mem_rowT r t (c + 1) i k s]
    simp only [Prod.mk.injEq, List.length_cons]
    constructor
    · rintro (⟨rfl, rfl, rfl⟩ | ⟨h1, h2, h3, h4⟩)
      · exact ⟨rfl, Nat.le_refl _, by omega, by simp⟩
      · refine ⟨h1, by omega, by omega, ?_⟩
        rw [show k - c = (k - (c + 1)) + 1 by omega, List.getD_cons_succ]
        exact h4
    · rintro ⟨h1, h2, h3, h4⟩
      by_cases e : k = c
      · subst e
        left
        simp at h4
        exact ⟨h1, rfl, h4.symm⟩
      · right
        refine ⟨h1, by omega, by omega, ?_⟩
        rw [show k - c = (k - (c + 1)) + 1 by omega, List.getD_cons_succ] at h4
        exact h4

theorem mem_trisF : ∀ (l : List (List ByteArray)) (r i k : Nat) (s : ByteArray), (i, k, s) ∈ trisF r l ↔ r ≤ i ∧ i < r + l.length ∧ k < (l.getD (i - r) []).length ∧ cellA l (i - r) k = s
  | [], r, i, k, s => by
    simp only [trisF, List.not_mem_nil, List.length_nil, false_iff]
    omega
  | x :: t, r, i, k, s => by
    unfold trisF
    rw [List.mem_append, mem_rowT, mem_trisF t (r + 1) i k s]
    simp only [List.length_cons]
    constructor
    · rintro (⟨rfl, h2, h3, h4⟩ | ⟨h1, h2, h3, h4⟩)
      · refine ⟨Nat.le_refl _, by omega, by simpa using h3, ?_⟩
        simpa [cellA] using h4
      · have e : i - r = (i - (r + 1)) + 1 := by omega
        refine ⟨by omega, by omega, by rw [e, List.getD_cons_succ]; exact h3, ?_⟩
        unfold cellA
        rw [e, List.getD_cons_succ]
        exact h4
    · rintro ⟨h1, h2, h3, h4⟩
      by_cases e : i = r
      · subst e
        left
        refine ⟨rfl, Nat.zero_le _, by simpa using h3, by simpa [cellA] using h4⟩
      · right
        have e : i - r = (i - (r + 1)) + 1 := by omega
        unfold cellA at h4
        rw [e, List.getD_cons_succ] at h3 h4
        exact ⟨by omega, by omega, h3, h4⟩

theorem mem_tris0 {l : List (List ByteArray)} {i k : Nat} {s : ByteArray} : (i, k, s) ∈ trisF 0 l ↔ i < l.length ∧ k < (l.getD i []).length ∧ cellA l i k = s := by
  rw [mem_trisF]
  simp

theorem rowT_fst (r : Nat) : ∀ (l : List ByteArray) (c : Nat), ∀ t ∈ rowT r c l, t.1 = r
  | [], _, t, h => by simp [rowT] at h
  | x :: l, c, t, h => by
    unfold rowT at h
    rw [List.mem_cons] at h
    rcases h with rfl | h
    · rfl
    · exact rowT_fst r l (c + 1) t h

theorem trisF_fst : ∀ (l : List (List ByteArray)) (r : Nat), ∀ t ∈ trisF r l, r ≤ t.1
  | [], _, t, h => by simp [trisF] at h
  | x :: l, r, t, h => by
    unfold trisF at h
    rw [List.mem_append] at h
    rcases h with h | h
    · have := rowT_fst r x 0 t h; omega
    · have := trisF_fst l (r + 1) t h; omega

/-- Rows come one behind the other. -/
theorem trisF_up : ∀ (l : List (List ByteArray)) (r : Nat), (trisF r l).Pairwise (fun a b => a.1 ≤ b.1)
  | [], _ => List.Pairwise.nil
  | x :: l, r => by
    unfold trisF
    rw [List.pairwise_append]
    refine ⟨?_, trisF_up l (r + 1), fun a ha b hb => ?_⟩
    · apply List.pairwise_of_forall_mem_list
      intro a ha b hb
      rw [rowT_fst r x 0 a ha, rowT_fst r x 0 b hb]
      exact Nat.le_refl _
    · rw [rowT_fst r x 0 a ha]
      have := trisF_fst l (r + 1) b hb
      omega

def eqB (s z : ByteArray) : Bool := decide (z = s)

def cntT (L : List Tri) (s : ByteArray) : Nat := L.countP (fun t => eqB s t.2.2)

theorem cntT_snoc (L : List Tri) (t : Tri) (s : ByteArray) : cntT (L ++ [t]) s = cntT L s + if t.2.2 = s then 1 else 0 := by
  unfold cntT
  rw [List.countP_append, List.countP_singleton]
  unfold eqB
  simp

theorem cntT_no {L : List Tri} {s : ByteArray} (h : ∀ i k, (i, k, s) ∉ L) : cntT L s = 0 := by
  unfold cntT
  rw [List.countP_eq_zero]
  rintro ⟨i, k, z⟩ hm hz
  unfold eqB at hz
  simp at hz
  subst hz
  exact h i k hm

/-- What a region tells of the cells so far. -/
structure RegI (L : List Tri) (x : RegD) : Prop where
  ne : x.name.size ≠ 0
  lo : ∀ i k, (i, k, x.name) ∈ L → x.row ≤ (i : Int) ∧ (i : Int) < x.row + x.rows ∧ x.col ≤ (k : Int) ∧ (k : Int) < x.col + x.cols
  top : ∃ i k, (i, k, x.name) ∈ L ∧ (i : Int) = x.row
  bot : ∃ i k, (i, k, x.name) ∈ L ∧ (i : Int) + 1 = x.row + x.rows
  lef : ∃ i k, (i, k, x.name) ∈ L ∧ (k : Int) = x.col
  rig : ∃ i k, (i, k, x.name) ∈ L ∧ (k : Int) + 1 = x.col + x.cols
  cnt : x.cells = (cntT L x.name : Int)

theorem RegI.other {L : List Tri} {x : RegD} (h : RegI L x) {t : Tri} (ht : t.2.2 ≠ x.name) : RegI (L ++ [t]) x := by
  have key : ∀ i k, (i, k, x.name) ∈ L ++ [t] ↔ (i, k, x.name) ∈ L := fun i k => by
    rw [List.mem_append]
    constructor
    · rintro (h | h)
      · exact h
      · simp at h
        subst h
        exact absurd rfl ht
    · exact .inl
  refine ⟨h.ne, fun i k hm => h.lo i k ((key i k).1 hm), ?_, ?_, ?_, ?_, ?_⟩
  · obtain ⟨i, k, h1, h2⟩ := h.top; exact ⟨i, k, (key i k).2 h1, h2⟩
  · obtain ⟨i, k, h1, h2⟩ := h.bot; exact ⟨i, k, (key i k).2 h1, h2⟩
  · obtain ⟨i, k, h1, h2⟩ := h.lef; exact ⟨i, k, (key i k).2 h1, h2⟩
  · obtain ⟨i, k, h1, h2⟩ := h.rig; exact ⟨i, k, (key i k).2 h1, h2⟩
  · rw [cntT_snoc, if_neg ht]; exact h.cnt

theorem RegI.add {L : List Tri} {x : RegD} (h : RegI L x) {r c : Nat} (hr : ∀ t ∈ L, t.1 ≤ r) : RegI (L ++ [(r, c, x.name)]) (addR x r c) := by
  obtain ⟨i1, k1, m1, e1⟩ := h.top
  obtain ⟨i2, k2, m2, e2⟩ := h.bot
  obtain ⟨i3, k3, m3, e3⟩ := h.lef
  obtain ⟨i4, k4, m4, e4⟩ := h.rig
  have l1 := h.lo i1 k1 m1
  have l2 := h.lo i2 k2 m2
  have l3 := h.lo i3 k3 m3
  have l4 := h.lo i4 k4 m4
  have q1 := hr _ m1
  have q2 := hr _ m2
  simp only at q1 q2
  have inl : ∀ {i k : Nat}, (i, k, x.name) ∈ L → (i, k, x.name) ∈ L ++ [(r, c, x.name)] := fun hm => List.mem_append_left _ hm
  have inr : (r, c, x.name) ∈ L ++ [(r, c, x.name)] := List.mem_append_right _ (by simp)
  refine ⟨h.ne, fun i k hm => ?_, ⟨i1, k1, inl m1, e1⟩, ⟨r, c, inr, ?_⟩, ?_, ?_, ?_⟩
  · rw [List.mem_append] at hm
    simp only [addR]
    rcases hm with hm | hm
    · have := h.lo i k hm
      have q := hr _ hm
      simp only at q
      omega
    · simp only [List.mem_singleton, Prod.mk.injEq] at hm
      obtain ⟨rfl, rfl, _⟩ := hm
      omega
  · simp only [addR]; omega
  · simp only [addR]
    by_cases hc : x.col ≤ (c : Int)
    · exact ⟨i3, k3, inl m3, by omega⟩
    · exact ⟨r, c, inr, by omega⟩
  · simp only [addR]
    by_cases hc : (c : Int) + 1 ≤ x.col + x.cols
    · exact ⟨i4, k4, inl m4, by omega⟩
    · exact ⟨r, c, inr, by omega⟩
  · show x.cells + 1 = (cntT (L ++ [(r, c, x.name)]) x.name : Int)
    rw [cntT_snoc, if_pos rfl, h.cnt]
    rfl

theorem RegI.new {L : List Tri} {r c : Nat} {s : ByteArray} (hs : s.size ≠ 0) (hn : ∀ i k, (i, k, s) ∉ L) : RegI (L ++ [(r, c, s)]) (addR ⟨s, r, c, 0, 0, 0⟩ r c) := by
  have inr : (r, c, s) ∈ L ++ [(r, c, s)] := List.mem_append_right _ (by simp)
  refine ⟨hs, fun i k hm => ?_, ⟨r, c, inr, rfl⟩, ⟨r, c, inr, ?_⟩, ⟨r, c, inr, ?_⟩, ⟨r, c, inr, ?_⟩, ?_⟩
  · rw [List.mem_append] at hm
    rcases hm with hm | hm
    · exact absurd hm (hn i k)
    · simp only [List.mem_singleton, Prod.mk.injEq] at hm
      obtain ⟨rfl, rfl, _⟩ := hm
      simp only [addR]
      omega
  · simp only [addR]; omega
  · simp only [addR]; omega
  · simp only [addR]; omega
  · show (0 : Int) + 1 = (cntT (L ++ [(r, c, s)]) s : Int)
    rw [cntT_snoc, if_pos rfl, cntT_no hn]
    rfl

/-- The first cells of names, one behind the other. -/
def frsT (acc : List Tri) (t : Tri) : List Tri := if t.2.2.size = 0 ∨ acc.any (fun u => eqB t.2.2 u.2.2) = true then acc else acc ++ [t]

/-- What regions tell of the cells so far. -/
structure RegsI (L : List Tri) (acc : List RegD) : Prop where
  reg : ∀ j x, acc[j]? = some x → idxR acc x.name = some j ∧ RegI L x
  all : ∀ t ∈ L, t.2.2.size ≠ 0 → (idxR acc t.2.2).isSome = true
  ord : acc.map (fun x => (x.name, x.row)) = (L.foldl frsT []).map (fun t => (t.2.2, (t.1 : Int)))

theorem idxR_any : ∀ (acc : List RegD) (s : ByteArray), (idxR acc s).isSome = (acc.map (fun x => (x.name, x.row))).any (fun u => eqB s u.1)
  | [], s => rfl
  | x :: r, s => by
    unfold idxR
    simp only [List.map_cons, List.any_cons]
    rw [← idxR_any r s]
    unfold eqB
    by_cases h : x.name = s
    · simp [h]
    · simp [h]

theorem RegsI.step {L : List Tri} {acc : List RegD} (h : RegsI L acc) {t : Tri} (hr : ∀ u ∈ L, u.1 ≤ t.1) : RegsI (L ++ [t]) (stepT acc t) := by
  obtain ⟨r, c, s⟩ := t
  have hany : (L.foldl frsT []).any (fun u => eqB s u.2.2) = (idxR acc s).isSome := by
    rw [idxR_any, h.ord, List.any_map]
    rfl
  have hfr : (L ++ [(r, c, s)]).foldl frsT [] = if s.size = 0 ∨ (idxR acc s).isSome = true then L.foldl frsT [] else L.foldl frsT [] ++ [(r, c, s)] := by
    rw [List.foldl_append, List.foldl_cons, List.foldl_nil, ← hany]
    generalize L.foldl frsT [] = F
    rfl
  unfold stepT stepR
  simp only
  by_cases h0 : s.size = 0
  · rw [if_pos h0]
    refine ⟨fun j x hx => ⟨(h.reg j x hx).1, (h.reg j x hx).2.other (fun e => (h.reg j x hx).2.ne (by rw [← e]; exact h0))⟩, fun t ht hs => ?_, ?_⟩
    · rw [List.mem_append] at ht
      rcases ht with ht | ht
      · exact h.all t ht hs
      · simp only [List.mem_singleton] at ht
        subst ht
        exact absurd h0 hs
    · rw [hfr, if_pos (.inl h0)]
      exact h.ord
  · rw [if_neg h0]
    cases hi : idxR acc s with
    | some i =>
      simp only
      obtain ⟨y, hy, hyn⟩ := idxR_some hi
      have e : acc.getD i noReg = y := by rw [List.getD, hy]; rfl
      rw [e]
      have hset : ∀ s', idxR (acc.set i (addR y r c)) s' = idxR acc s' := fun s' => idxR_set acc i _ s' (fun x hx => by rw [hy] at hx; cases hx; rfl)
      refine ⟨fun j x hx => ?_, fun t ht hs => ?_, ?_⟩
      · rw [hset]
        rw [List.getElem?_set] at hx
        by_cases hij : i = j
        · subst hij
          have hlt : i < acc.length := (List.getElem?_eq_some_iff.1 hy).1
          rw [if_pos rfl, if_pos hlt] at hx
          cases hx
          refine ⟨by show idxR acc y.name = some i; rw [hyn]; exact hi, ?_⟩
          have := (h.reg i y hy).2.add (c := c) hr
          rw [hyn] at this
          exact this
        · rw [if_neg hij] at hx
          have := h.reg j x hx
          refine ⟨this.1, this.2.other (fun e => hij ?_)⟩
          have h1 := this.1
          rw [← e] at h1
          simp only at h1
          rw [hi] at h1
          exact Option.some.inj h1
      · rw [hset]
        rw [List.mem_append] at ht
        rcases ht with ht | ht
        · exact h.all t ht hs
        · simp only [List.mem_singleton] at ht
          subst ht
          rw [hi]
          rfl
      · rw [hfr, if_pos (.inr (by rw [hi]; rfl)), ← h.ord, List.map_set]
        apply List.ext_getElem?
        intro j
        rw [List.getElem?_set]
        by_cases hij : i = j
        · subst hij
          rw [if_pos rfl, List.getElem?_map, hy]
          have hlt : i < acc.length := (List.getElem?_eq_some_iff.1 hy).1
          rw [if_pos (by simpa using hlt)]
          rfl
        · rw [if_neg hij]
    | none =>
      simp only
      have hno : ∀ i k, (i, k, s) ∉ L := fun i k hm => by
        have := h.all _ hm h0
        simp only at this
        rw [hi] at this
        cases this
      have hsn := fun s' => idxR_snoc acc (addR ⟨s, r, c, 0, 0, 0⟩ r c) s'
      refine ⟨fun j x hx => ?_, fun t ht hs => ?_, ?_⟩
      · rw [hsn]
        rcases Nat.lt_or_ge j acc.length with hj | hj
        · rw [List.getElem?_append_left hj] at hx
          have := h.reg j x hx
          rw [this.1]
          refine ⟨rfl, this.2.other (fun e => ?_)⟩
          have h1 := this.1
          rw [← e] at h1
          simp only at h1
          rw [hi] at h1
          cases h1
        · rw [List.getElem?_append_right hj] at hx
          have hj0 : j - acc.length = 0 := by
            rcases Nat.eq_zero_or_pos (j - acc.length) with h | h
            · exact h
            · rw [List.getElem?_eq_none (by simp; omega)] at hx; cases hx
          rw [hj0] at hx
          simp only [List.getElem?_cons_zero, Option.some.injEq] at hx
          subst hx
          have hje : j = acc.length := by omega
          refine ⟨?_, RegI.new h0 hno⟩
          show (match idxR acc s with | some i => some i | none => if s = s then some acc.length else none) = some j
          rw [hi, hje]
          simp
      · rw [hsn]
        rw [List.mem_append] at ht
        rcases ht with ht | ht
        · have := h.all t ht hs
          cases hq : idxR acc t.2.2 with
          | none => rw [hq] at this; cases this
          | some q => rfl
        · simp only [List.mem_singleton] at ht
          subst ht
          simp only
          rw [hi]
          show (if s = s then some acc.length else none).isSome = true
          rw [if_pos rfl]
          rfl
      · rw [hfr, if_neg (by rw [hi]; simp [h0]), List.map_append, h.ord, List.map_append]
        rfl

theorem RegsI.go : ∀ (L2 L1 : List Tri) (acc : List RegD), RegsI L1 acc → (L1 ++ L2).Pairwise (fun a b => a.1 ≤ b.1) → RegsI (L1 ++ L2) (L2.foldl stepT acc)
  | [], L1, acc, h, _ => by simpa using h
  | t :: L2, L1, acc, h, hp => by
    have h1 := h.step (t := t) (fun u hu => by
      rw [List.pairwise_append] at hp
      exact hp.2.2 u hu t (by simp))
    have := RegsI.go L2 (L1 ++ [t]) _ h1 (by simpa using hp)
    simpa using this

theorem regsI_all (rs : List (List ByteArray)) : RegsI (trisF 0 rs) (regsF [] 0 rs) := by
  rw [regsF_fold]
  have := RegsI.go (trisF 0 rs) [] [] ⟨fun j x hx => by simp at hx, fun t ht => by simp at ht, rfl⟩ (by simpa using trisF_up rs 0)
  simpa using this

end Go.Proofs.Ytogmifomamgkpaa

/- Names that fill rectangles: both ways of asking tell the same. -/
namespace Go.Proofs.Ytogmifomamgkpaa
open Go.RowKit

def rowC (s : ByteArray) (row : List ByteArray) : Nat := row.countP (eqB s)

theorem cnt_rowT (r : Nat) (s : ByteArray) : ∀ (l : List ByteArray) (c : Nat), cntT (rowT r c l) s = rowC s l
  | [], _ => rfl
  | x :: t, c => by
    have ih := cnt_rowT r s t (c + 1)
    unfold cntT rowC at ih ⊢
    unfold rowT
    rw [List.countP_cons, List.countP_cons, ih]

theorem cnt_trisF (s : ByteArray) : ∀ (l : List (List ByteArray)) (r : Nat), cntT (trisF r l) s = (l.map (rowC s)).sum
  | [], _ => rfl
  | x :: t, r => by
    have ih := cnt_trisF s t (r + 1)
    have h1 := cnt_rowT r s x 0
    unfold trisF
    rw [List.map_cons, List.sum_cons, ← ih, ← h1]
    unfold cntT
    rw [List.countP_append]

theorem rowC_box (s : ByteArray) : ∀ (row : List ByteArray) (c C : Nat), (∀ k, k < row.length → row.getD k ByteArray.empty = s → c ≤ k ∧ k < c + C) → rowC s row ≤ C ∧ (C ≤ rowC s row → ∀ k, c ≤ k → k < c + C → k < row.length ∧ row.getD k ByteArray.empty = s)
  | [], c, C, _ => ⟨by simp [rowC], fun h k h1 h2 => by simp [rowC] at h; omega⟩
  | z :: t, c, C, h => by
    have e : rowC s (z :: t) = rowC s t + if z = s then 1 else 0 := by
      unfold rowC
      rw [List.countP_cons]
      unfold eqB
      simp
    rw [e]
    by_cases hz : z = s
    · have h0 := h 0 (by simp) (by simpa using hz)
      have ih := rowC_box s t 0 (C - 1) (fun k hk he => by
        have := h (k + 1) (by simp; omega) (by simpa using he)
        omega)
      rw [if_pos hz]
      refine ⟨by omega, fun hC k h1 h2 => ?_⟩
      cases k with
      | zero => exact ⟨by simp, by simpa using hz⟩
      | succ k =>
        have := ih.2 (by omega) k (by omega) (by omega)
        exact ⟨by simp; omega, by simpa using this.2⟩
    · rw [if_neg hz]
      by_cases hc : c = 0
      · have ih := rowC_box s t 0 (C - 1) (fun k hk he => by
          have := h (k + 1) (by simp; omega) (by simpa using he)
          omega)
        refine ⟨by omega, fun hC k h1 h2 => ?_⟩
        omega
      · have ih := rowC_box s t (c - 1) C (fun k hk he => by
          have := h (k + 1) (by simp; omega) (by simpa using he)
          omega)
        refine ⟨by omega, fun hC k h1 h2 => ?_⟩
        cases k with
        | zero => omega
        | succ k =>
          have := ih.2 (by omega) k (by omega) (by omega)
          exact ⟨by simp; omega, by simpa using this.2⟩

theorem sum_box (C : Nat) : ∀ (ns : List Nat) (r R : Nat), (∀ i, i < ns.length → ns.getD i 0 ≠ 0 → r ≤ i ∧ i < r + R) → (∀ n ∈ ns, n ≤ C) → ns.sum ≤ R * C ∧ (R * C ≤ ns.sum → 0 < C → ∀ i, r ≤ i → i < r + R → i < ns.length ∧ ns.getD i 0 = C)
  | [], r, R, _, _ => ⟨by simp, fun h hC i h1 h2 => by
      have h' : R * C = 0 := Nat.le_zero.1 (by simpa using h)
      rcases Nat.mul_eq_zero.1 h' with h | h
      · omega
      · omega⟩
  | n :: t, r, R, h, hC => by
    have hn : n ≤ C := hC n (by simp)
    have ht : ∀ m ∈ t, m ≤ C := fun m hm => hC m (by simp [hm])
    rw [List.sum_cons]
    by_cases hz : n = 0
    · by_cases hr : r = 0
      · have ih := sum_box C t 0 (R - 1) (fun i hi he => by
          have := h (i + 1) (by simp; omega) (by simpa using he)
          omega) ht
        cases R with
        | zero =>
          simp at ih ⊢
          refine ⟨⟨hz, ih⟩, fun _ i h1 h2 => by omega⟩
        | succ R =>
          simp only [Nat.add_sub_cancel] at ih
          rw [Nat.succ_mul]
          refine ⟨by omega, fun h1 h2 => ?_⟩
          omega
      · have ih := sum_box C t (r - 1) R (fun i hi he => by
          have := h (i + 1) (by simp; omega) (by simpa using he)
          omega) ht
        refine ⟨by omega, fun h1 h2 i h3 h4 => ?_⟩
        cases i with
        | zero => omega
        | succ i =>
          have := ih.2 (by omega) h2 i (by omega) (by omega)
          exact ⟨by simp; omega, by simpa using this.2⟩
    · have h0 := h 0 (by simp) (by simpa using hz)
      have ih := sum_box C t 0 (R - 1) (fun i hi he => by
        have := h (i + 1) (by simp; omega) (by simpa using he)
        omega) ht
      cases R with
      | zero => omega
      | succ R =>
        simp only [Nat.add_sub_cancel] at ih
        rw [Nat.succ_mul]
        refine ⟨by omega, fun h1 h2 i h3 h4 => ?_⟩
        cases i with
        | zero => exact ⟨by simp, by simp; omega⟩
        | succ i =>
          have := ih.2 (by omega) h2 i (by omega) (by omega)
          exact ⟨by simp; omega, by simpa using this.2⟩

theorem getD_map_rowC (s : ByteArray) (rs : List (List ByteArray)) (i : Nat) (hi : i < rs.length) : (rs.map (rowC s)).getD i 0 = rowC s (rs.getD i []) := by
  rw [List.getD, List.getD, List.getElem?_map, List.getElem?_eq_getElem hi]
  rfl

/-- A name all of whose cells are in a box has no more of them than the box; with as many each of the box is one. -/
theorem cnt_box {rs : List (List ByteArray)} {s : ByteArray} {r c h w : Nat} (hb : ∀ i k, (i, k, s) ∈ trisF 0 rs → r ≤ i ∧ i < r + h ∧ c ≤ k ∧ k < c + w) :
    cntT (trisF 0 rs) s ≤ h * w ∧ (h * w ≤ cntT (trisF 0 rs) s → 0 < w → ∀ i k, r ≤ i → i < r + h → c ≤ k → k < c + w → (i, k, s) ∈ trisF 0 rs) := by
  rw [cnt_trisF]
  have hrow : ∀ i, i < rs.length → rowC s (rs.getD i []) ≤ w ∧ (w ≤ rowC s (rs.getD i []) → ∀ k, c ≤ k → k < c + w → k < (rs.getD i []).length ∧ (rs.getD i []).getD k ByteArray.empty = s) := fun i hi =>
    rowC_box s _ c w (fun k hk he => by
      have := hb i k (mem_tris0.2 ⟨hi, hk, he⟩)
      omega)
  have hs := sum_box w (rs.map (rowC s)) r h (fun i hi hne => by
    have hi2 : i < rs.length := by simpa using hi
    rw [getD_map_rowC s rs i hi2] at hne
    have hpos : 0 < rowC s (rs.getD i []) := by omega
    unfold rowC at hpos
    rw [List.countP_pos_iff] at hpos
    obtain ⟨z, hz, he⟩ := hpos
    obtain ⟨k, hk, rfl⟩ := List.getElem_of_mem hz
    have he2 : (rs.getD i [])[k] = s := by unfold eqB at he; simpa using he
    have := hb i k (mem_tris0.2 ⟨hi2, hk, by unfold cellA; rw [List.getD, List.getElem?_eq_getElem hk]; exact he2⟩)
    omega) (fun n hn => by
    rw [List.mem_map] at hn
    obtain ⟨row, hr, rfl⟩ := hn
    obtain ⟨i, hi, rfl⟩ := List.getElem_of_mem hr
    have := (hrow i hi).1
    rw [List.getD, List.getElem?_eq_getElem hi] at this
    exact this)
  refine ⟨hs.1, fun h1 h2 i k h3 h4 h5 h6 => ?_⟩
  have hh := hs.2 h1 h2 i h3 h4
  have hi : i < rs.length := by simpa using hh.1
  rw [getD_map_rowC s rs i hi] at hh
  have := (hrow i hi).2 (by omega) k h5 h6
  exact mem_tris0.2 ⟨hi, this.1, this.2⟩

/-- A name's cells are a rectangle, all of it and nothing else. -/
structure FullR (rs : List (List ByteArray)) (s : ByteArray) (r c h w : Nat) : Prop where
  hp : 0 < h
  wp : 0 < w
  cell : ∀ i k, (i, k, s) ∈ trisF 0 rs ↔ r ≤ i ∧ i < r + h ∧ c ≤ k ∧ k < c + w
  cnt : cntT (trisF 0 rs) s = w * h

theorem full_of {rs : List (List ByteArray)} {x : RegD} (hx : RegI (trisF 0 rs) x) (hg : gapB x = false) : ∃ r c h w : Nat, x.row = r ∧ x.col = c ∧ x.rows = h ∧ x.cols = w ∧ FullR rs x.name r c h w := by
  obtain ⟨i1, k1, m1, e1⟩ := hx.top
  obtain ⟨i2, k2, m2, e2⟩ := hx.bot
  obtain ⟨i3, k3, m3, e3⟩ := hx.lef
  obtain ⟨i4, k4, m4, e4⟩ := hx.rig
  have l2 := hx.lo i2 k2 m2
  have l4 := hx.lo i4 k4 m4
  obtain ⟨h, hh⟩ : ∃ h : Nat, x.rows = h := ⟨x.rows.toNat, by omega⟩
  obtain ⟨w, hw⟩ : ∃ w : Nat, x.cols = w := ⟨x.cols.toNat, by omega⟩
  have hb : ∀ i k, (i, k, x.name) ∈ trisF 0 rs → i1 ≤ i ∧ i < i1 + h ∧ k3 ≤ k ∧ k < k3 + w := fun i k hm => by
    have := hx.lo i k hm
    omega
  have hc := cnt_box hb
  have hge : h * w ≤ cntT (trisF 0 rs) x.name := by
    unfold gapB at hg
    rw [hx.cnt, hh, hw] at hg
    simp only [decide_eq_false_iff_not, Int.not_lt] at hg
    exact_mod_cast hg
  have h0 : 0 < w := by omega
  refine ⟨i1, k3, h, w, e1.symm, e3.symm, hh, hw, by omega, h0, fun i k => ⟨hb i k, fun ⟨q1, q2, q3, q4⟩ => hc.2 hge h0 i k q1 q2 q3 q4⟩, ?_⟩
  rw [Nat.mul_comm w h]
  omega

/-- How far a name goes on to the right, and down. -/
def RunR (rs : List (List ByteArray)) (r c w : Nat) : Prop := (∀ j, j < w → c + j < (rs.getD r []).length ∧ cellA rs r (c + j) = cellA rs r c) ∧ ¬ (c + w < (rs.getD r []).length ∧ cellA rs r (c + w) = cellA rs r c)

def RunD (rs : List (List ByteArray)) (r c h : Nat) : Prop := (∀ j, j < h → r + j < rs.length ∧ cellA rs (r + j) c = cellA rs r c) ∧ ¬ (r + h < rs.length ∧ cellA rs (r + h) c = cellA rs r c)

structure FillsW (rs : List (List ByteArray)) (r c w h : Nat) : Prop where
  rr : RunR rs r c w
  rd : RunD rs r c h
  wi : ∀ i k, (i, k, cellA rs r c) ∈ trisF 0 rs → r ≤ i ∧ i < r + h ∧ c ≤ k ∧ k < c + w
  cnt : cntT (trisF 0 rs) (cellA rs r c) = w * h

def fillsP (rs : List (List ByteArray)) (r c : Nat) : Prop := ∃ w h, FillsW rs r c w h

theorem RunR.uniq {rs : List (List ByteArray)} {r c w w' : Nat} (h : RunR rs r c w) (h' : RunR rs r c w') : w = w' := by
  rcases Nat.lt_trichotomy w w' with e | e | e
  · exact absurd (h'.1 w e) h.2
  · exact e
  · exact absurd (h.1 w' e) h'.2

theorem RunD.uniq {rs : List (List ByteArray)} {r c w w' : Nat} (h : RunD rs r c w) (h' : RunD rs r c w') : w = w' := by
  rcases Nat.lt_trichotomy w w' with e | e | e
  · exact absurd (h'.1 w e) h.2
  · exact e
  · exact absurd (h.1 w' e) h'.2

/-- All rows have as many cells. -/
def Even8 (rs : List (List ByteArray)) : Prop := ∃ M, ∀ i, i < rs.length → (rs.getD i []).length = M

theorem FullR.fills {rs : List (List ByteArray)} {s : ByteArray} {r c h w : Nat} (he : Even8 rs) (hf : FullR rs s r c h w) : cellA rs r c = s ∧ FillsW rs r c w h := by
  obtain ⟨M, hM⟩ := he
  have hp := hf.hp
  have wp := hf.wp
  have h0 := mem_tris0.1 ((hf.cell r c).2 ⟨Nat.le_refl _, by omega, Nat.le_refl _, by omega⟩)
  have hs := h0.2.2
  refine ⟨hs, ⟨fun j hj => ?_, fun hh => ?_⟩, ⟨fun j hj => ?_, fun hh => ?_⟩, ?_, ?_⟩
  · have := mem_tris0.1 ((hf.cell r (c + j)).2 ⟨Nat.le_refl _, by omega, by omega, by omega⟩)
    exact ⟨this.2.1, by rw [this.2.2, hs]⟩
  · have := (hf.cell r (c + w)).1 (mem_tris0.2 ⟨h0.1, hh.1, by rw [hh.2, hs]⟩)
    omega
  · have := mem_tris0.1 ((hf.cell (r + j) c).2 ⟨by omega, by omega, Nat.le_refl _, by omega⟩)
    exact ⟨this.1, by rw [this.2.2, hs]⟩
  · have := (hf.cell (r + h) c).1 (mem_tris0.2 ⟨hh.1, by have := h0.2.1; rw [hM r h0.1] at this; rw [hM _ hh.1]; exact this, by rw [hh.2, hs]⟩)
    omega
  · rw [hs]; exact fun i k hm => (hf.cell i k).1 hm
  · rw [hs]; exact hf.cnt

def Bef (a b : Tri) : Prop := a.1 < b.1 ∨ a.1 = b.1 ∧ a.2.1 < b.2.1

theorem rowT_snd (r : Nat) : ∀ (l : List ByteArray) (c : Nat), ∀ t ∈ rowT r c l, c ≤ t.2.1
  | [], _, t, h => by simp [rowT] at h
  | x :: l, c, t, h => by
    unfold rowT at h
    rw [List.mem_cons] at h
    rcases h with rfl | h
    · exact Nat.le_refl _
    · have := rowT_snd r l (c + 1) t h; omega

theorem rowT_bef (r : Nat) : ∀ (l : List ByteArray) (c : Nat), (rowT r c l).Pairwise Bef
  | [], _ => List.Pairwise.nil
  | x :: l, c => by
    unfold rowT
    rw [List.pairwise_cons]
    exact ⟨fun b hb => .inr ⟨(rowT_fst r l (c + 1) b hb).symm, by have := rowT_snd r l (c + 1) b hb; show c < b.2.1; omega⟩, rowT_bef r l (c + 1)⟩

theorem trisF_bef : ∀ (l : List (List ByteArray)) (r : Nat), (trisF r l).Pairwise Bef
  | [], _ => List.Pairwise.nil
  | x :: l, r => by
    unfold trisF
    rw [List.pairwise_append]
    refine ⟨rowT_bef r x 0, trisF_bef l (r + 1), fun a ha b hb => .inl ?_⟩
    rw [rowT_fst r x 0 a ha]
    have := trisF_fst l (r + 1) b hb
    omega

theorem split_first (s : ByteArray) : ∀ (L : List Tri), (∃ t ∈ L, t.2.2 = s) → ∃ L1 t L2, L = L1 ++ t :: L2 ∧ t.2.2 = s ∧ ∀ u ∈ L1, u.2.2 ≠ s
  | [], ⟨t, h, _⟩ => by simp at h
  | x :: L, h => by
    by_cases hx : x.2.2 = s
    · exact ⟨[], x, L, rfl, hx, fun u hu => by simp at hu⟩
    · obtain ⟨t, ht, hs⟩ := h
      rw [List.mem_cons] at ht
      rcases ht with rfl | ht
      · exact absurd hs hx
      · obtain ⟨L1, t', L2, e, h1, h2⟩ := split_first s L ⟨t, ht, hs⟩
        refine ⟨x :: L1, t', L2, by rw [e]; rfl, h1, fun u hu => ?_⟩
        rw [List.mem_cons] at hu
        rcases hu with rfl | hu
        · exact hx
        · exact h2 u hu

theorem first_ex {rs : List (List ByteArray)} {s : ByteArray} (h : ∃ i k, (i, k, s) ∈ trisF 0 rs) : ∃ r c, (r, c, s) ∈ trisF 0 rs ∧ frstP rs r c := by
  obtain ⟨i, k, hm⟩ := h
  obtain ⟨L1, ⟨r, c, z⟩, L2, e, h1, h2⟩ := split_first s (trisF 0 rs) ⟨_, hm, rfl⟩
  simp only at h1
  subst h1
  have hin : (r, c, z) ∈ trisF 0 rs := by rw [e]; simp
  refine ⟨r, c, hin, fun i' k' hh he => ?_⟩
  have hc := (mem_tris0.1 hin)
  have hm' : (i', k', z) ∈ trisF 0 rs := mem_tris0.2 (by
    rcases hh with ⟨h3, h4⟩ | ⟨rfl, h4⟩
    · exact ⟨by omega, h4, by rw [he, hc.2.2]⟩
    · exact ⟨hc.1, by omega, by rw [he, hc.2.2]⟩)
  rw [e, List.mem_append, List.mem_cons] at hm'
  have hp := trisF_bef rs 0
  rw [e, List.pairwise_append, List.pairwise_cons] at hp
  rcases hm' with hm' | hm' | hm'
  · exact h2 _ hm' rfl
  · simp only [Prod.mk.injEq] at hm'
    omega
  · have := hp.2.1.1 _ hm'
    unfold Bef at this
    simp only at this
    omega

theorem first_full {rs : List (List ByteArray)} {s : ByteArray} {r c r0 c0 h w : Nat} (hf : FullR rs s r0 c0 h w) (hm : (r, c, s) ∈ trisF 0 rs) (h1 : frstP rs r c) : r = r0 ∧ c = c0 := by
  have hb := (hf.cell r c).1 hm
  have hp := hf.hp
  have wp := hf.wp
  have m := mem_tris0.1 hm
  have m0 := mem_tris0.1 ((hf.cell r0 c0).2 ⟨Nat.le_refl _, by omega, Nat.le_refl _, by omega⟩)
  have key : ¬ (r0 < r ∧ c0 < (rs.getD r0 []).length ∨ r0 = r ∧ c0 < c) := fun hh => h1 r0 c0 hh (by rw [m.2.2, m0.2.2])
  have := m0.2.1
  omega

theorem regs_name {rs : List (List ByteArray)} {i k : Nat} {s : ByteArray} (hm : (i, k, s) ∈ trisF 0 rs) (hs : s.size ≠ 0) : ∃ x ∈ regsF [] 0 rs, x.name = s ∧ RegI (trisF 0 rs) x := by
  have hr := regsI_all rs
  have := hr.all _ hm hs
  simp only at this
  cases hi : idxR (regsF [] 0 rs) s with
  | none => rw [hi] at this; cases this
  | some j =>
    obtain ⟨x, h1, h2⟩ := idxR_some hi
    exact ⟨x, List.mem_of_getElem? h1, h2, (hr.reg j x h1).2⟩

theorem filled_iff {rs : List (List ByteArray)} (he : Even8 rs) : filledV rs = true ↔ ∀ r c, r < rs.length → c < (rs.getD r []).length → (cellA rs r c).size ≠ 0 → frstP rs r c → fillsP rs r c := by
  have hfv : filledV rs = true ↔ ∀ x ∈ regsF [] 0 rs, gapB x = false := by
    unfold filledV
    rw [Bool.not_eq_true', List.any_eq_false]
    exact ⟨fun h x hx => by have := h x hx; simpa using this, fun h x hx => by rw [h x hx]; simp⟩
  rw [hfv]
  constructor
  · intro h r c hr hc hs h1
    have hm : (r, c, cellA rs r c) ∈ trisF 0 rs := mem_tris0.2 ⟨hr, hc, rfl⟩
    obtain ⟨x, hx, hn, hi⟩ := regs_name hm hs
    obtain ⟨r0, c0, h0, w0, _, _, _, _, hf⟩ := full_of hi (h x hx)
    rw [hn] at hf
    obtain ⟨rfl, rfl⟩ := first_full hf hm h1
    exact ⟨w0, h0, (hf.fills he).2⟩
  · intro h x hx
    obtain ⟨j, hj⟩ := List.getElem?_of_mem hx
    have hi := ((regsI_all rs).reg j x hj).2
    obtain ⟨i1, k1, m1, e1⟩ := hi.top
    obtain ⟨r, c, hm, h1⟩ := first_ex ⟨i1, k1, m1⟩
    have m := mem_tris0.1 hm
    obtain ⟨w, hh, hf⟩ := h r c m.1 m.2.1 (by rw [m.2.2]; exact hi.ne) h1
    have hwi := hf.wi
    have hcn := hf.cnt
    rw [m.2.2] at hwi hcn
    obtain ⟨i2, k2, m2, e2⟩ := hi.bot
    obtain ⟨i3, k3, m3, e3⟩ := hi.lef
    obtain ⟨i4, k4, m4, e4⟩ := hi.rig
    have b1 := hwi _ _ m1
    have b2 := hwi _ _ m2
    have b3 := hwi _ _ m3
    have b4 := hwi _ _ m4
    have l2 := hi.lo _ _ m2
    have l4 := hi.lo _ _ m4
    unfold gapB
    rw [decide_eq_false_iff_not, hi.cnt, hcn, Int.not_lt]
    have q1 : x.rows ≤ (hh : Int) := by omega
    have q2 : x.cols ≤ (w : Int) := by omega
    have q3 : 0 ≤ x.cols := by omega
    calc x.rows * x.cols ≤ (hh : Int) * x.cols := Int.mul_le_mul_of_nonneg_right q1 q3
      _ ≤ (hh : Int) * (w : Int) := Int.mul_le_mul_of_nonneg_left q2 (by omega)
      _ = ((w * hh : Nat) : Int) := by rw [Int.mul_comm]; rfl

end Go.Proofs.Ytogmifomamgkpaa

/- ref08.fills, walked. -/
namespace Go.Proofs.Ytogmifomamgkpaa
open Go.RowKit

/-- The cells ahead of a place. -/
def pfx (rs : List (List ByteArray)) (r c : Nat) : List Tri := trisF 0 (rs.take r) ++ rowT r 0 ((rs.getD r []).take c)

theorem rowT_app (r : Nat) : ∀ (a b : List ByteArray) (c : Nat), rowT r c (a ++ b) = rowT r c a ++ rowT r (c + a.length) b
  | [], b, c => by simp [rowT]
  | x :: a, b, c => by
    simp only [List.cons_append, rowT, rowT_app r a b (c + 1), List.length_cons]
    rw [show c + 1 + a.length = c + (a.length + 1) by omega]

theorem trisF_app : ∀ (a b : List (List ByteArray)) (r : Nat), trisF r (a ++ b) = trisF r a ++ trisF (r + a.length) b
  | [], b, r => by simp [trisF]
  | x :: a, b, r => by
    simp only [List.cons_append, trisF, trisF_app a b (r + 1), List.length_cons, List.append_assoc]
    rw [show r + 1 + a.length = r + (a.length + 1) by omega]

theorem pfx_zero (rs : List (List ByteArray)) : pfx rs 0 0 = [] := by simp [pfx, trisF, rowT]

theorem pfx_step {rs : List (List ByteArray)} {r c : Nat} (hc : c < (rs.getD r []).length) : pfx rs r (c + 1) = pfx rs r c ++ [(r, c, cellA rs r c)] := by
  unfold pfx
  rw [List.take_add_one, List.getElem?_eq_getElem hc, rowT_app, ← List.append_assoc, List.length_take, Nat.min_eq_left (by omega)]
  unfold cellA
  rw [List.getD_eq_getElem?_getD (l := rs.getD r []), List.getElem?_eq_getElem hc]
  simp [rowT]

theorem pfx_row {rs : List (List ByteArray)} {r : Nat} (hr : r < rs.length) : pfx rs (r + 1) 0 = pfx rs r (rs.getD r []).length := by
  have e : rs.getD r [] = rs[r] := by rw [List.getD, List.getElem?_eq_getElem hr]; rfl
  unfold pfx
  rw [List.take_add_one, List.getElem?_eq_getElem hr, trisF_app, List.length_take, Nat.min_eq_left (by omega), List.take_length, e]
  simp [trisF, rowT]

theorem pfx_end (rs : List (List ByteArray)) : pfx rs rs.length 0 = trisF 0 rs := by
  unfold pfx
  rw [List.take_length]
  simp [rowT]

theorem mem_pfx {rs : List (List ByteArray)} {r c i k : Nat} {s : ByteArray} (hr : r < rs.length) (hc : c ≤ (rs.getD r []).length) : (i, k, s) ∈ pfx rs r c ↔ (i < r ∧ k < (rs.getD i []).length ∨ i = r ∧ k < c) ∧ cellA rs i k = s := by
  have hg : ∀ i, i < r → (rs.take r).getD i [] = rs.getD i [] := fun i hi => by
    rw [List.getD, List.getD, List.getElem?_take_of_lt hi]
  unfold pfx
  rw [List.mem_append, mem_tris0, mem_rowT]
  simp only [List.length_take, Nat.zero_le, true_and, Nat.zero_add, Nat.sub_zero]
  constructor
  · rintro (⟨h1, h2, h3⟩ | ⟨rfl, h2, h3⟩)
    · have hi : i < r := by omega
      unfold cellA at h3
      rw [hg i hi] at h2 h3
      exact ⟨.inl ⟨hi, h2⟩, h3⟩
    · have hk : k < c := by omega
      refine ⟨.inr ⟨rfl, hk⟩, ?_⟩
      unfold cellA
      rw [List.getD, List.getElem?_take_of_lt hk] at h3
      exact h3
  · rintro ⟨⟨h1, h2⟩ | ⟨rfl, h2⟩, h3⟩
    · left
      unfold cellA at h3 ⊢
      rw [hg i h1]
      exact ⟨by omega, h2, h3⟩
    · right
      refine ⟨rfl, by omega, ?_⟩
      rw [List.getD, List.getElem?_take_of_lt h2]
      exact h3

theorem cnt_pfx_le (s : ByteArray) (L : List Tri) : cntT L s ≤ L.length := List.countP_le_length

theorem pfx_len {rs : List (List ByteArray)} (hs : SmRs rs) : (trisF 0 rs).length ≤ 4096 := by
  have hrow : ∀ (l : List ByteArray) (r c : Nat), (rowT r c l).length = l.length := by
    intro l
    induction l with
    | nil => intro r c; rfl
    | cons x t ih => intro r c; simp [rowT, ih]
  have key : ∀ (l : List (List ByteArray)) (r : Nat), (∀ row ∈ l, row.length ≤ 64) → (trisF r l).length ≤ 64 * l.length := by
    intro l
    induction l with
    | nil => intro r _; simp [trisF]
    | cons x t ih =>
      intro r h
      have h1 := ih (r + 1) (fun row hr => h row (by simp [hr]))
      have h2 := h x (by simp)
      simp only [trisF, List.length_append, hrow, List.length_cons]
      omega
  have := key rs 0 (fun row hr => (hs.2 row hr).1)
  have := hs.1
  omega

theorem cnt_pfx_bd {rs : List (List ByteArray)} (hs : SmRs rs) {r c : Nat} (hr : r < rs.length) (s : ByteArray) : cntT (pfx rs r c) s ≤ 4096 := by
  have hsub : (pfx rs r c).length ≤ (trisF 0 rs).length := by
    have e : trisF 0 rs = trisF 0 (rs.take r) ++ (rowT r 0 (rs.getD r []) ++ trisF (r + 1) (rs.drop (r + 1))) := by
      have h1 : rs = rs.take r ++ (rs.getD r [] :: rs.drop (r + 1)) := by
        rw [List.getD, List.getElem?_eq_getElem hr]
        simp
      conv => lhs; rw [h1, trisF_app]
      rw [List.length_take, Nat.min_eq_left (by omega)]
      simp [trisF]
    rw [e]
    unfold pfx
    rw [List.length_append, List.length_append, List.length_append]
    have h3 : rowT r 0 (rs.getD r []) = rowT r 0 ((rs.getD r []).take c) ++ rowT r (0 + ((rs.getD r []).take c).length) ((rs.getD r []).drop c) := by
      rw [← rowT_app, List.take_append_drop]
    rw [h3, List.length_append]
    omega
  have := cnt_pfx_le s (pfx rs r c)
  have := pfx_len hs
  omega

/-- The answer is whether something holds. -/
def AnsB (P : Prop) (e : Ending) : Prop := ∃ B, e = .returned (.bool B) ∧ (B = true ↔ P)

set_option maxRecDepth 100000 in
set_option maxHeartbeats 16000000 in
theorem rfills_any (rs : List (List ByteArray)) (r c : Nat) (v : Value) (w : World) (h : Rws w v rs) (hs : SmRs rs) (he : Even8 rs) (hr : r < rs.length) (hc : c < (rs.getD r []).length) :
    Calls Try.prog 39 #[v, .int .i64 (r : Int), .int .i64 (c : Int)] w fun e w' => w' = w ∧ AnsB (fillsP rs r c) e := by
  obtain ⟨M, hM⟩ := he
  obtain ⟨ao, cap, rfl⟩ : ∃ ao cap, v = .slice ao rs.length cap := by
    rcases h.val with ⟨h0, ao, cap, h⟩ | ⟨b, off, cap, h, _⟩
    · exact ⟨ao, cap, by rw [h0]; exact h⟩
    · exact ⟨_, _, h⟩
  have hra := rws_row8 h rfl
  have hl := hs.1
  have hM64 : M ≤ 64 := by rw [← hM r hr, List.getD, List.getElem?_eq_getElem hr]; exact (hs.2 _ (List.getElem_mem hr)).1
  obtain ⟨b, off, ur, cr, rfl, hb, hcr, hsr⟩ := hra r hr
  have hrow : ∀ i, i < rs.length → ∃ ua uc, w.cell? ⟨b, off + i, none⟩ = some (.slice ua M uc) ∧ ∀ k, k < M → ∃ b' o', ua = some ⟨b', o', none⟩ ∧ w.cell? ⟨b', o' + k, none⟩ = some (.string (cellA rs i k)) := fun i hi => by
    obtain ⟨b', o', ua, uc, e, _, h1, h2⟩ := hra i hi
    simp only [Option.some.injEq, Addr.mk.injEq] at e
    obtain ⟨rfl, rfl, _⟩ := e
    have h3 := strs_cell8 h2
    rw [hM i hi] at h1 h3
    exact ⟨ua, uc, h1, fun k hk => by obtain ⟨x1, x2, x3, _, x4⟩ := h3 k hk; exact ⟨x1, x2, x3, x4⟩⟩
  rw [hM r hr] at hc
  have hnot1 : ∀ W H i k, RunR rs r c W → RunD rs r c H → i < rs.length → k < M → cellA rs i k = cellA rs r c → ¬ (r ≤ i ∧ i < r + H ∧ c ≤ k ∧ k < c + W) → ¬ fillsP rs r c := fun W H i k h1 h2 h3 h4 h5 h6 ⟨W', H', hf⟩ => by
    have := hf.wi i k (mem_tris0.2 ⟨h3, by rw [hM i h3]; exact h4, h5⟩)
    rw [hf.rr.uniq h1, hf.rd.uniq h2] at this
    exact h6 this
  have hend1 : ∀ W H, RunR rs r c W → RunD rs r c H → (∀ i k, i < rs.length → k < M → cellA rs i k = cellA rs r c → (r ≤ i ∧ i < r + H ∧ c ≤ k ∧ k < c + W)) → (cntT (trisF 0 rs) (cellA rs r c) = W * H ↔ fillsP rs r c) := fun W H h1 h2 h3 => by
    constructor
    · intro h4
      exact ⟨W, H, h1, h2, fun i k hm => by have := mem_tris0.1 hm; exact h3 i k this.1 (by have h9 := this.2.1; rw [hM i this.1] at h9; exact h9) this.2.2, h4⟩
    · rintro ⟨W', H', hf⟩
      rw [hf.cnt, hf.rr.uniq h1, hf.rd.uniq h2]
  have hrr : ∀ W, c + W ≤ M → (∀ j, j < W → cellA rs r (c + j) = cellA rs r c) → (c + W = M ∨ cellA rs r (c + W) ≠ cellA rs r c) → RunR rs r c W := fun W h1 h2 h3 =>
    ⟨fun j hj => ⟨by rw [hM r hr]; omega, h2 j hj⟩, fun ⟨q1, q2⟩ => by rw [hM r hr] at q1; rcases h3 with h3 | h3; omega; exact h3 q2⟩
  have hrd : ∀ H, r + H ≤ rs.length → (∀ j, j < H → cellA rs (r + j) c = cellA rs r c) → (r + H = rs.length ∨ cellA rs (r + H) c ≠ cellA rs r c) → RunD rs r c H := fun H h1 h2 h3 =>
    ⟨fun j hj => ⟨by omega, h2 j hj⟩, fun ⟨q1, q2⟩ => by rcases h3 with h3 | h3; omega; exact h3 q2⟩
  have hcnt : ∀ i k, i < rs.length → k < M → cntT (pfx rs i (k + 1)) (cellA rs r c) = cntT (pfx rs i k) (cellA rs r c) + if cellA rs i k = cellA rs r c then 1 else 0 := fun i k h1 h2 => by
    rw [pfx_step (by rw [hM i h1]; exact h2), cntT_snoc]
  have hcr2 : ∀ i, i < rs.length → cntT (pfx rs (i + 1) 0) (cellA rs r c) = cntT (pfx rs i M) (cellA rs r c) := fun i h1 => by rw [pfx_row h1, hM i h1]
  have hcb : ∀ i k, i < rs.length → k ≤ M → cntT (pfx rs i k) (cellA rs r c) ≤ 4096 := fun i k h1 _ => cnt_pfx_bd hs h1 _
  have hc0 : cntT (pfx rs 0 0) (cellA rs r c) = 0 := by rw [pfx_zero]; rfl
  have hce : cntT (pfx rs rs.length 0) (cellA rs r c) = cntT (trisF 0 rs) (cellA rs r c) := by rw [pfx_end]
  have hcb2 : cntT (trisF 0 rs) (cellA rs r c) ≤ 4096 := by have := cnt_pfx_le (cellA rs r c) (trisF 0 rs); have := pfx_len hs; omega
  generalize fillsP rs r c = FP at *
  obtain ⟨S, hS⟩ : ∃ S, S = cellA rs r c := ⟨_, rfl⟩
  rw [← hS] at hnot1 hend1 hrr hrd hcnt hcr2 hcb hc0 hce hcb2
  have HNOT := hide hnot1
  have HEND := hide hend1
  have HRR := hide hrr
  have HRD := hide hrd
  have HCNT := hide hcnt
  have HCR2 := hide hcr2
  have HCB := hide hcb
  have HC0 := hide hc0
  have HCE := hide hce
  have HROW := hide hrow
  have HS := hide hS
  generalize cntT (trisF 0 rs) S = CT at *
  obtain ⟨N, hN⟩ : ∃ N, N = rs.length := ⟨_, rfl⟩
  rw [← hN] at HNOT HEND HRD HCNT HCR2 HCB HCE HROW hl hr ⊢
  clear hra h hs hN hrow hnot1 hend1 hrr hrd hcnt hcr2 hcb hc0 hce hS hcr hsr hM
  obtain ⟨ua, uc, hcw, hck⟩ := (HROW.out) r hr
  obtain ⟨b9, o9, rfl, hc9⟩ := hck c hc
  rw [← HS.out] at hc9
  have HCK := hide hck
  have HC9 := hide hc9
  have hrb : (r : Int) < (N : Int) := by omega
  have hcb0 : (c : Int) < (M : Int) := by omega
  clear hck
  go_enter Try.func39, Try.ntmps39
  go_upto_block 0 with fail
  clear hc9
  go_cut [8] (fun a wx => ∃ k : Nat, a = .int .i64 (k : Int) ∧ k ≤ 64 ∧ Hid (RunR rs r c k) ∧ wx = w)
  case first =>
    go_wp2_with fail
    go_loopw [8] (fun a wx => ∃ k : Nat, c + k ≤ M ∧ a = .int .i64 (k : Int) ∧ Hid (∀ j, j < k → cellA rs r (c + j) = S) ∧ wx = w) (fun a _ => (M - intOf a).toNat)
    case atStart => exact ⟨0, by omega, by go_num, hide (fun j hj => by omega), by first | rfl | trivial⟩
    case round =>
      obtain ⟨k, hk, rfl, HK, hwr⟩ := hrel
      subst wr
      by_cases hkM : c + k < M
      · have e1 : (c : Int) + (k : Int) < (M : Int) := by omega
        obtain ⟨b8, o8, e8, hc8⟩ := (HCK.out) (c + k) hkM
        simp only [Option.some.injEq, Addr.mk.injEq] at e8
        obtain ⟨rfl, rfl, _⟩ := e8
        by_cases hz : cellA rs r (c + k) = S
        · have HK2 : Hid (∀ j, j < k + 1 → cellA rs r (c + j) = S) := hide (fun j hj => by
            by_cases e : j = k
            · rw [e]; exact hz
            · exact HK.out j (by omega))
          rw [hz] at hc8
          clear hz HK
          go_wp2_with fail
          go_roundw
          case rel => exact ⟨k + 1, by omega, by go_num, HK2, by first | rfl | trivial⟩
          case measure => simp [intOf]; omega
        · have HR := hide ((HRR.out) k (by omega) HK.out (.inr hz))
          generalize cellA rs r (c + k) = z at *
          have hzb : (z.toList == S.toList) = false := by rw [beq_eq_false_iff_ne]; exact fun e => hz (WideShapes.bytes_inj (by rw [← ByteArray.toList_eq, ← ByteArray.toList_eq]; exact e))
          clear hz HK
          go_wp2_with fail
          go_meet
          case rel => exact ⟨k, rfl, by omega, HR, by first | rfl | trivial⟩
      · have e1 : ¬ (c : Int) + (k : Int) < (M : Int) := by omega
        have HR := hide ((HRR.out) k (by omega) HK.out (.inl (by omega)))
        clear HK
        go_wp2_with fail
        go_meet
        case rel => exact ⟨k, rfl, by omega, HR, by first | rfl | trivial⟩
  case rest =>
    obtain ⟨W, rfl, hW, HRW, hwx⟩ := hcut
    subst wc
    go_upto_block 2 with fail
    go_cut [9] (fun a wx => ∃ k : Nat, a = .int .i64 (k : Int) ∧ k ≤ 64 ∧ Hid (RunD rs r c k) ∧ wx = w)
    case first =>
      go_wp2_with fail
      go_loopw [9] (fun a wx => ∃ k : Nat, r + k ≤ N ∧ a = .int .i64 (k : Int) ∧ Hid (∀ j, j < k → cellA rs (r + j) c = S) ∧ wx = w) (fun a _ => (N - intOf a).toNat)
      case atStart => exact ⟨0, by omega, by go_num, hide (fun j hj => by omega), by first | rfl | trivial⟩
      case round =>
        obtain ⟨k, hk, rfl, HK, hwr⟩ := hrel
        subst wr
        by_cases hkN : r + k < N
        · have e1 : (r : Int) + (k : Int) < (N : Int) := by omega
          obtain ⟨ux, vx, hcx, hkx⟩ := (HROW.out) (r + k) hkN
          obtain ⟨b8, o8, rfl, hc8⟩ := hkx c hc
          clear hkx
          by_cases hz : cellA rs (r + k) c = S
          · have HK2 : Hid (∀ j, j < k + 1 → cellA rs (r + j) c = S) := hide (fun j hj => by
              by_cases e : j = k
              · rw [e]; exact hz
              · exact HK.out j (by omega))
            rw [hz] at hc8
            clear hz HK
            go_wp2_with fail
            go_roundw
            case rel => exact ⟨k + 1, by omega, by go_num, HK2, by first | rfl | trivial⟩
            case measure => simp [intOf]; omega
          · have HR := hide ((HRD.out) k (by omega) HK.out (.inr hz))
            generalize cellA rs (r + k) c = z at *
            have hzb : (z.toList == S.toList) = false := by rw [beq_eq_false_iff_ne]; exact fun e => hz (WideShapes.bytes_inj (by rw [← ByteArray.toList_eq, ← ByteArray.toList_eq]; exact e))
            clear hz HK
            go_wp2_with fail
            go_meet
            case rel => exact ⟨k, rfl, by omega, HR, by first | rfl | trivial⟩
        · have e1 : ¬ (r : Int) + (k : Int) < (N : Int) := by omega
          have HR := hide ((HRD.out) k (by omega) HK.out (.inl (by omega)))
          clear HK
          go_wp2_with fail
          go_meet
          case rel => exact ⟨k, rfl, by omega, HR, by first | rfl | trivial⟩
    case rest =>
      obtain ⟨H, rfl, hH, HRH, hwx⟩ := hcut
      subst wc
      have hno := fun i k => (HNOT.out) W H i k HRW.out HRH.out
      have hen := (HEND.out) W H HRW.out HRH.out
      have HNO := hide hno
      have HEN := hide hen
      clear hno hen HNOT HEND HRW HRH HRR HRD HCK HC9 hcw HS
      go_wp2_with fail
      go_loopw [10, 11] (fun n a wx => ∃ i : Nat, i ≤ N ∧ a = .int .i64 (i : Int) ∧ n = .int .i64 (cntT (pfx rs i 0) S : Int) ∧ Hid (∀ i' k', i' < i → k' < M → cellA rs i' k' = S → (r ≤ i' ∧ i' < r + H ∧ c ≤ k' ∧ k' < c + W)) ∧ wx = w) (fun _ a _ => (N - intOf a).toNat)
      case atStart => exact ⟨0, by omega, by go_num, by rw [HC0.out]; rfl, hide (fun i' k' hj => by omega), by first | rfl | trivial⟩
      case round =>
        obtain ⟨i, hi, rfl, rfl, HI, hwr⟩ := hrel
        subst wr
        by_cases hiN : i < N
        · have e1 : (i : Int) < (N : Int) := by omega
          obtain ⟨ux, vx, hcx, hkx⟩ := (HROW.out) i hiN
          have HKX := hide hkx
          clear hkx
          go_wp2_with fail
          go_loopw [10, 12] (fun n a wx => ∃ k : Nat, k ≤ M ∧ a = .int .i64 (k : Int) ∧ n = .int .i64 (cntT (pfx rs i k) S : Int) ∧ Hid (∀ k', k' < k → cellA rs i k' = S → (r ≤ i ∧ i < r + H ∧ c ≤ k' ∧ k' < c + W)) ∧ wx = w) (fun _ a _ => (M - intOf a).toNat)
          case atStart => exact ⟨0, by omega, by go_num, rfl, hide (fun k' hj => by omega), by first | rfl | trivial⟩
          case round =>
            obtain ⟨k, hk, rfl, rfl, HK, hwr⟩ := hrel
            subst wr
            have hcb1 := (HCB.out) i k hiN hk
            by_cases hkM : k < M
            · have e2 : (k : Int) < (M : Int) := by omega
              obtain ⟨b8, o8, rfl, hc8⟩ := (HKX.out) k hkM
              have hcs := (HCNT.out) i k hiN hkM
              by_cases hz : cellA rs i k = S
              · rw [if_pos hz] at hcs
                have HCS := hide hcs
                generalize cntT (pfx rs i k) S = q at *
                clear hcs
                by_cases hin : r ≤ i ∧ i < r + H ∧ c ≤ k ∧ k < c + W
                · have HK2 : Hid (∀ k', k' < k + 1 → cellA rs i k' = S → (r ≤ i ∧ i < r + H ∧ c ≤ k' ∧ k' < c + W)) := hide (fun k' hj h9 => by
                    by_cases e : k' = k
                    · rw [e]; exact hin
                    · exact HK.out k' (by omega) h9)
                  rw [hz] at hc8
                  have t1 : ¬ (i : Int) < (r : Int) := by omega
                  have t2 : ¬ (r : Int) + (H : Int) ≤ (i : Int) := by omega
                  have t3 : ¬ (k : Int) < (c : Int) := by omega
                  have t4 : ¬ (c : Int) + (W : Int) ≤ (k : Int) := by omega
                  clear hz HK hin
                  go_wp2_with fail
                  go_roundw
                  case rel => exact ⟨k + 1, by omega, by go_num, by rw [HCS.out]; go_num, HK2, by first | rfl | trivial⟩
                  case measure => simp [intOf]; omega
                · have hnf := (HNO.out) i k hiN hkM hz hin
                  have HNF := hide hnf
                  rw [hz] at hc8
                  clear hz HK hnf HCS
                  by_cases t1 : (i : Int) < (r : Int)
                  · clear hin
                    go_wp2_with fail
                    go_ret
                    exact ⟨rfl, false, rfl, fun h => absurd h (by decide), fun h => absurd h HNF.out⟩
                  · by_cases t2 : (r : Int) + (H : Int) ≤ (i : Int)
                    · clear hin
                      go_wp2_with fail
                      go_ret
                      exact ⟨rfl, false, rfl, fun h => absurd h (by decide), fun h => absurd h HNF.out⟩
                    · by_cases t3 : (k : Int) < (c : Int)
                      · clear hin
                        go_wp2_with fail
                        go_ret
                        exact ⟨rfl, false, rfl, fun h => absurd h (by decide), fun h => absurd h HNF.out⟩
                      · have t4 : (c : Int) + (W : Int) ≤ (k : Int) := by omega
                        clear hin
                        go_wp2_with fail
                        go_ret
                        exact ⟨rfl, false, rfl, fun h => absurd h (by decide), fun h => absurd h HNF.out⟩
              · rw [if_neg hz] at hcs
                have HCS := hide hcs
                have HK2 : Hid (∀ k', k' < k + 1 → cellA rs i k' = S → (r ≤ i ∧ i < r + H ∧ c ≤ k' ∧ k' < c + W)) := hide (fun k' hj h9 => by
                  by_cases e : k' = k
                  · rw [e] at h9; exact absurd h9 hz
                  · exact HK.out k' (by omega) h9)
                clear hcs
                generalize cntT (pfx rs i k) S = q at *
                generalize cellA rs i k = z at *
                have hzb : (z.toList == S.toList) = false := by rw [beq_eq_false_iff_ne]; exact fun e => hz (WideShapes.bytes_inj (by rw [← ByteArray.toList_eq, ← ByteArray.toList_eq]; exact e))
                clear hz HK
                go_wp2_with fail
                go_roundw
                case rel => exact ⟨k + 1, by omega, by go_num, by rw [HCS.out]; rfl, HK2, by first | rfl | trivial⟩
                case measure => simp [intOf]; omega
            · have e2 : ¬ (k : Int) < (M : Int) := by omega
              have hkm : k = M := by omega
              have HI2 : Hid (∀ i' k', i' < i + 1 → k' < M → cellA rs i' k' = S → (r ≤ i' ∧ i' < r + H ∧ c ≤ k' ∧ k' < c + W)) := hide (fun i' k' hj h8 h9 => by
                by_cases e : i' = i
                · rw [e] at h9 ⊢; exact HK.out k' (by omega) h9
                · exact HI.out i' k' (by omega) h8 h9)
              have HC2 : Hid (cntT (pfx rs (i + 1) 0) S = cntT (pfx rs i k) S) := hide (by rw [hkm]; exact (HCR2.out) i hiN)
              clear hkm HK HI
              go_wp2_with fail
              go_roundw
              case rel => exact ⟨i + 1, by omega, by go_num, by rw [HC2.out], HI2, by first | rfl | trivial⟩
              case measure => simp [intOf]; omega
        · have e1 : ¬ (i : Int) < (N : Int) := by omega
          have hiN2 : i = N := by omega
          have hfin := (HEN.out) (fun i' k' h1 h2 h3 => HI.out i' k' (by omega) h2 h3)
          have hcc : cntT (pfx rs i 0) S = CT := by rw [hiN2]; exact HCE.out
          have HF := hide hfin
          rw [hcc]
          have hmul : (W : Int) * (H : Int) ≤ 4096 := by
            have : W * H ≤ 64 * 64 := Nat.mul_le_mul hW hH
            exact_mod_cast this
          have hmul0 : 0 ≤ (W : Int) * (H : Int) := Int.mul_nonneg (by omega) (by omega)
          clear hcc hfin hiN2 HI HEN HNO
          go_wp2_with fail
          go_ret
          refine ⟨rfl, _, rfl, ?_⟩
          rw [← HF.out, beq_iff_eq]
          constructor
          · intro h; exact_mod_cast h
          · intro h; exact_mod_cast h

end Go.Proofs.Ytogmifomamgkpaa

/- ref08.filled, walked. -/
namespace Go.Proofs.Ytogmifomamgkpaa
open Go.RowKit

theorem ok_of_sm {rs : List (List ByteArray)} (h : SmRs rs) : OkRs rs :=
  ⟨by have := h.1; omega, fun r hr => ⟨by have := (h.2 r hr).1; omega, fun x hx => by have := (h.2 r hr).2 x hx; omega⟩⟩

set_option maxRecDepth 100000 in
set_option maxHeartbeats 16000000 in
theorem rfilled_any (rs : List (List ByteArray)) (v : Value) (w : World) (h : Rws w v rs) (hs : SmRs rs) (he : Even8 rs) :
    Calls Try.prog 20 #[v] w fun e w' => e = .returned (.bool (filledV rs)) ∧ Below w.heap.size w w' := by
  have hfi := filled_iff he
  have c1 := fun (w' : World) (hb : Below w.heap.size w w') r c hr hc => rfirst_any rs r c v w' (h.below hb) (ok_of_sm hs) hr hc
  have c2 := fun (w' : World) (hb : Below w.heap.size w w') r c hr hc => rfills_any rs r c v w' (h.below hb) hs he hr hc
  obtain ⟨M, hM⟩ := he
  obtain ⟨ao, cap, rfl⟩ : ∃ ao cap, v = .slice ao rs.length cap := by
    rcases h.val with ⟨h0, ao, cap, h⟩ | ⟨b, off, cap, h, _⟩
    · exact ⟨ao, cap, by rw [h0]; exact h⟩
    · exact ⟨_, _, h⟩
  have hra := rws_row8 h rfl
  have hl := hs.1
  have hM64 : 0 < rs.length → M ≤ 64 := fun hr => by rw [← hM 0 hr, List.getD, List.getElem?_eq_getElem hr]; exact (hs.2 _ (List.getElem_mem hr)).1
  have hrow : ∀ i, i < rs.length → ∃ b off ua uc, ao = some ⟨b, off, none⟩ ∧ b < w.heap.size ∧ w.cell? ⟨b, off + i, none⟩ = some (.slice ua M uc) ∧ ∀ k, k < M → ∃ b' o', ua = some ⟨b', o', none⟩ ∧ b' < w.heap.size ∧ w.cell? ⟨b', o' + k, none⟩ = some (.string (cellA rs i k)) := fun i hi => by
    obtain ⟨b', o', ua, uc, e, hb, h1, h2⟩ := hra i hi
    have h3 := strs_cell8 h2
    rw [hM i hi] at h1 h3
    exact ⟨b', o', ua, uc, e, hb, h1, h3⟩
  have c1' : ∀ (w' : World) (_ : Below w.heap.size w w') r c, r < rs.length → c < M → Calls Try.prog 38 #[.slice ao rs.length cap, .int .i64 (r : Int), .int .i64 (c : Int)] w' fun e w'' => Below w'.heap.size w' w'' ∧ ∃ B, e = .returned (.bool B) ∧ (B = true ↔ frstP rs r c) := fun w' hb r c hr hc => c1 w' hb r c hr (by rw [hM r hr]; exact hc)
  have c2' : ∀ (w' : World) (_ : Below w.heap.size w w') r c, r < rs.length → c < M → Calls Try.prog 39 #[.slice ao rs.length cap, .int .i64 (r : Int), .int .i64 (c : Int)] w' fun e w'' => w'' = w' ∧ AnsB (fillsP rs r c) e := fun w' hb r c hr hc => c2 w' hb r c hr (by rw [hM r hr]; exact hc)
  have hno : ∀ r c, r < rs.length → c < M → ¬ (cellA rs r c).size = 0 → frstP rs r c → ¬ fillsP rs r c → filledV rs = false := fun r c h1 h2 h3 h4 h5 => by
    cases hf : filledV rs
    · rfl
    · exact absurd (hfi.1 hf r c h1 (by rw [hM r h1]; exact h2) h3 h4) h5
  have hyes : (∀ r c, r < rs.length → c < M → ¬ (cellA rs r c).size = 0 → frstP rs r c → fillsP rs r c) → filledV rs = true := fun hh => hfi.2 (fun r c h1 h2 h3 h4 => hh r c h1 (by rw [hM r h1] at h2; exact h2) h3 h4)
  generalize filledV rs = FV at *
  have HROW := hide hrow
  have C1 := hide c1'
  have C2 := hide c2'
  have HNO := hide hno
  have HYES := hide hyes
  obtain ⟨N, hN⟩ : ∃ N, N = rs.length := ⟨_, rfl⟩
  rw [← hN] at HROW C1 C2 HNO HYES hl hM64 ⊢
  clear hfi c1 c2 c1' c2' hrow hno hyes hra h hs hM hN
  go_enter Try.func20, Try.ntmps20
  go_wp2_with fail
  go_loopw [3] (fun a wx => ∃ i : Nat, i ≤ N ∧ a = .int .i64 (i : Int) ∧ Hid (∀ r c, r < i → c < M → ¬ (cellA rs r c).size = 0 → frstP rs r c → fillsP rs r c) ∧ Hid (Below w.heap.size w wx)) (fun a _ => (N - intOf a).toNat)
  case atStart => exact ⟨0, Nat.zero_le _, by go_num, hide (fun r c h => by omega), hide (Below.refl _ _)⟩
  case round =>
    obtain ⟨i, hi, rfl, HI, HB⟩ := hrel
    by_cases hiN : i < N
    · have hib : (i : Int) < (N : Int) := by omega
      have hM4 := hM64 (by omega)
      obtain ⟨b, off, ua, uc, rfl, hb, hcr, hck⟩ := (HROW.out) i hiN
      have HCR := hide hcr
      have HCK := hide hck
      clear hcr hck
      go_wp2_with fail
      go_loopw [4] (fun a wx => ∃ k : Nat, k ≤ M ∧ a = .int .i64 (k : Int) ∧ Hid (∀ c, c < k → ¬ (cellA rs i c).size = 0 → frstP rs i c → fillsP rs i c) ∧ Hid (Below w.heap.size w wx)) (fun a _ => (M - intOf a).toNat)
      case atStart => exact ⟨0, Nat.zero_le _, by go_num, hide (fun k' h => by omega), HB⟩
      case round =>
        clear HB
        obtain ⟨k, hk, rfl, HK, HB⟩ := hrel
        have d1 := ((HB.out).cell (p := ⟨b, off + i, none⟩) hb).trans HCR.out
        by_cases hkM : k < M
        · have hkb : (k : Int) < (M : Int) := by omega
          obtain ⟨b3, o3, rfl, hb3, c3⟩ := (HCK.out) k hkM
          have d3 := ((HB.out).cell (p := ⟨b3, o3 + k, none⟩) hb3).trans c3
          have hnx : (¬ (cellA rs i k).size = 0 → frstP rs i k → fillsP rs i k) → Hid (∀ c, c < k + 1 → ¬ (cellA rs i c).size = 0 → frstP rs i c → fillsP rs i c) := fun hne => hide (fun k' hk' => by
            by_cases e : k' = k
            · rw [e]; exact hne
            · exact HK.out k' (by omega))
          have hno := (HNO.out) i k hiN hkM
          have c1 := (C1.out) wr HB.out i k hiN hkM
          have c2 := fun w' (hb : Below w.heap.size w w') => (C2.out) w' hb i k hiN hkM
          generalize cellA rs i k = s at *
          generalize frstP rs i k = FR at *
          generalize fillsP rs i k = FI at *
          have HNX := hide hnx
          have HNO2 := hide hno
          have CC1 := hide c1
          have CC2 := hide c2
          clear hnx hno c1 c2 c3 HK
          rcases empty_or8 s with rfl | ⟨hs1, hs2, hs3⟩
          · have HK2 := (HNX.out) (fun h => absurd rfl h)
            clear HNX HNO2 CC1 CC2
            go_wp2_with fail
            go_roundw
            case rel => exact ⟨k + 1, by omega, by go_num, HK2, HB⟩
            case measure => simp [intOf]; omega
          · go_wp2_with fail
            refine Calls.mono CC1.out ?_
            rintro e w1 ⟨hw1, B1, rfl, hB1⟩
            have HB1 := hide ((HB.out).trans (hw1.mono (HB.out).size))
            have cc2 := (CC2.out) w1 HB1.out
            have CC3 := hide cc2
            clear hw1 cc2 CC1 CC2 d1 d3
            cases B1
            · have hf : ¬ FR := fun h => by have := hB1.2 h; cases this
              have HK2 := (HNX.out) (fun _ h => absurd h hf)
              clear HNX HNO2 hB1 hf CC3
              go_wp2_with fail
              go_roundw
              case rel => exact ⟨k + 1, by omega, by go_num, HK2, HB1⟩
              case measure => simp [intOf]; omega
            · have hf : FR := hB1.1 rfl
              clear hB1
              go_wp2_with fail
              refine Calls.mono CC3.out ?_
              rintro e w2 ⟨hw2, B2, rfl, hB2⟩
              subst w2
              clear CC3
              cases B2
              · have hg : ¬ FI := fun h => by have := hB2.2 h; cases this
                have hv := (HNO2.out) hs2 hf hg
                have HV := hide hv
                clear hv hg hf hB2 HNX HNO2
                go_wp2_with fail
                go_ret
                exact ⟨by rw [HV.out]; rfl, HB1.out⟩
              · have HK2 := (HNX.out) (fun _ _ => hB2.1 rfl)
                clear HNX HNO2 hB2 hf
                go_wp2_with fail
                go_roundw
                case rel => exact ⟨k + 1, by omega, by go_num, HK2, HB1⟩
                case measure => simp [intOf]; omega
        · have hkb : ¬ (k : Int) < (M : Int) := by omega
          have HI2 : Hid (∀ r c, r < i + 1 → c < M → ¬ (cellA rs r c).size = 0 → frstP rs r c → fillsP rs r c) := hide (fun r c h1 h2 => by
            by_cases e : r = i
            · rw [e]; exact HK.out c (by omega)
            · exact HI.out r c (by omega) h2)
          clear HI HK
          go_wp2_with fail
          go_roundw
          case rel => exact ⟨i + 1, by omega, by go_num, HI2, HB⟩
          case measure => simp [intOf]; omega
    · have hib : ¬ (i : Int) < (N : Int) := by omega
      have hv := (HYES.out) (fun r c h1 h2 => HI.out r c (by omega) h2)
      have HV := hide hv
      clear hv HI
      go_wp2_with fail
      go_ret
      exact ⟨by rw [HV.out]; rfl, HB.out⟩

end Go.Proofs.Ytogmifomamgkpaa

/- Rows that are not more than are looked at. -/
namespace Go.Proofs.Ytogmifomamgkpaa
open Go.RowKit

def LightP (rs : List (List ByteArray)) : Prop := rs.length ≤ 1500 ∧ ∀ i, i < rs.length → (rs.getD i []).length ≤ 1500 ∧ ∀ k, k < (rs.getD i []).length → (cellA rs i k).size ≤ 200

theorem LightP.ok {rs : List (List ByteArray)} (h : LightP rs) : OkRs rs := by
  refine ⟨by have := h.1; omega, fun r hr => ?_⟩
  obtain ⟨i, hi, rfl⟩ := List.getElem_of_mem hr
  have := h.2 i hi
  have e : rs.getD i [] = rs[i] := by rw [List.getD, List.getElem?_eq_getElem hi]; rfl
  rw [e] at this
  refine ⟨by omega, fun x hx => ?_⟩
  obtain ⟨k, hk, rfl⟩ := List.getElem_of_mem hx
  have h2 := this.2 k hk
  have e2 : cellA rs i k = rs[i][k] := by unfold cellA; rw [e, List.getD, List.getElem?_eq_getElem hk]; rfl
  rw [e2] at h2
  omega

/-- The answer is true only if something holds. -/
def AnsI (P : Prop) (e : Ending) : Prop := ∃ B, e = .returned (.bool B) ∧ (B = true → P)

set_option maxRecDepth 100000 in
set_option maxHeartbeats 8000000 in
theorem light8_any (rs : List (List ByteArray)) (v : Value) (w : World) (h : Rws w v rs) (hl : rs.length ≤ maxLen) (hr : ∀ row ∈ rs, row.length ≤ maxLen ∧ ∀ x ∈ row, x.size ≤ maxLen) :
    Calls Try.prog 9 #[v] w fun e w' => w' = w ∧ AnsI (LightP rs) e := by
  obtain ⟨ao, cap, rfl⟩ : ∃ ao cap, v = .slice ao rs.length cap := by
    rcases h.val with ⟨h0, ao, cap, h⟩ | ⟨b, off, cap, h, _⟩
    · exact ⟨ao, cap, by rw [h0]; exact h⟩
    · exact ⟨_, _, h⟩
  unfold maxLen at hl hr
  have hra := rws_row8 h rfl
  have hrow : ∀ i, i < rs.length → ∃ b off ua uc, ao = some ⟨b, off, none⟩ ∧ w.cell? ⟨b, off + i, none⟩ = some (.slice ua (rs.getD i []).length uc) ∧ (rs.getD i []).length ≤ 9223372036854775807 ∧ ∀ k, k < (rs.getD i []).length → ∃ b' o', ua = some ⟨b', o', none⟩ ∧ w.cell? ⟨b', o' + k, none⟩ = some (.string (cellA rs i k)) ∧ (cellA rs i k).size ≤ 9223372036854775807 := fun i hi => by
    obtain ⟨b', o', ua, uc, e, hb, h1, h2⟩ := hra i hi
    have h3 := strs_cell8 h2
    have e1 : rs.getD i [] = rs[i] := by rw [List.getD, List.getElem?_eq_getElem hi]; rfl
    have h4 := hr _ (List.getElem_mem hi)
    rw [← e1] at h4
    refine ⟨b', o', ua, uc, e, h1, by omega, fun k hk => ?_⟩
    obtain ⟨x1, x2, x3, _, x4⟩ := h3 k hk
    refine ⟨x1, x2, x3, x4, ?_⟩
    have h5 := h4.2 _ (List.getElem_mem hk)
    unfold cellA
    rw [List.getD_eq_getElem?_getD (l := rs.getD i []), List.getElem?_eq_getElem hk]
    simp only [Option.getD_some]
    omega
  have hfin : rs.length ≤ 1500 → (∀ i, i < rs.length → (rs.getD i []).length ≤ 1500 ∧ ∀ k, k < (rs.getD i []).length → (cellA rs i k).size ≤ 200) → LightP rs := fun h1 h2 => ⟨h1, h2⟩
  generalize LightP rs = LP at *
  have HROW := hide hrow
  have HFIN := hide hfin
  obtain ⟨N, hN⟩ : ∃ N, N = rs.length := ⟨_, rfl⟩
  rw [← hN] at HROW HFIN hl ⊢
  clear hra hrow hfin h hr hN
  go_enter Try.func9, Try.ntmps9
  go_wp2_with fail
  go_loopw [3, 10] (fun c a wx => ∃ i n : Nat, i ≤ N ∧ i ≤ n ∧ n ≤ 1500 ∧ a = .int .i64 (i : Int) ∧ c = .int .i64 (n : Int) ∧ Hid (∀ j, j < i → (rs.getD j []).length ≤ 1500 ∧ ∀ k, k < (rs.getD j []).length → (cellA rs j k).size ≤ 200) ∧ wx = w) (fun _ a _ => (N - intOf a).toNat)
  case atStart => exact ⟨0, 0, by omega, by omega, by omega, by go_num, by go_num, hide (fun j hj => by omega), by first | rfl | trivial⟩
  case round =>
    obtain ⟨i, n, hi, hin, hn, rfl, rfl, HI, hwr⟩ := hrel
    subst wr
    by_cases hiN : i < N
    · have hib : (i : Int) < (N : Int) := by omega
      obtain ⟨b, off, ua, uc, rfl, hc1, hlen, hck⟩ := (HROW.out) i hiN
      have HCK := hide hck
      obtain ⟨M, hM⟩ : ∃ M, M = (rs.getD i []).length := ⟨_, rfl⟩
      rw [← hM] at hc1 hlen HCK
      have HM := hide hM
      clear hck hM
      by_cases hbig : 1500 < n + (1 + min M 2000)
      · have hbg : (1500 : Int) < (n : Int) + (1 + min (M : Int) 2000) := by omega
        clear hbig
        go_wp2_with fail
        go_ret
        exact ⟨rfl, false, rfl, fun h => absurd h (by decide)⟩
      · have hbg : ¬ (1500 : Int) < (n : Int) + (1 + min (M : Int) 2000) := by omega
        have hM15 : M < 1500 := by omega
        have hmin : min (M : Int) 2000 = (M : Int) := by omega
        rw [hmin] at hbg
        have hn2 : n + (1 + M) ≤ 1500 := by omega
        clear hbig
        go_wp2_with fail
        go_loopw [24] (fun a wx => ∃ k : Nat, k ≤ M ∧ a = .int .i64 (k : Int) ∧ Hid (∀ j, j < k → (cellA rs i j).size ≤ 200) ∧ wx = w) (fun a _ => (M - intOf a).toNat)
        case atStart => exact ⟨0, by omega, by go_num, hide (fun j hj => by omega), by first | rfl | trivial⟩
        case round =>
          obtain ⟨k, hk, rfl, HK, hwr⟩ := hrel
          subst wr
          by_cases hkM : k < M
          · have hkb : (k : Int) < (M : Int) := by omega
            obtain ⟨b2, o2, rfl, hc2, hs⟩ := (HCK.out) k hkM
            have HK2 : ¬ 200 < (cellA rs i k).size → Hid (∀ j, j < k + 1 → (cellA rs i j).size ≤ 200) := fun hb => hide (fun j hj => by
              by_cases e : j = k
              · rw [e]; omega
              · exact HK.out j (by omega))
            generalize cellA rs i k = s at *
            have HK3 := hide HK2
            clear HK2 HK
            by_cases hsz : 200 < s.size
            · have hsb : (200 : Int) < (s.size : Int) := by omega
              clear hsz HK3
              go_wp2_with fail
              go_ret
              exact ⟨rfl, false, rfl, fun h => absurd h (by decide)⟩
            · have hsb : ¬ (200 : Int) < (s.size : Int) := by omega
              have HK4 := (HK3.out) hsz
              clear hsz HK3
              go_wp2_with fail
              go_roundw
              case rel => exact ⟨k + 1, by omega, by go_num, HK4, by first | rfl | trivial⟩
              case measure => simp [intOf]; omega
          · have hkb : ¬ (k : Int) < (M : Int) := by omega
            have HI2 : Hid (∀ j, j < i + 1 → (rs.getD j []).length ≤ 1500 ∧ ∀ k, k < (rs.getD j []).length → (cellA rs j k).size ≤ 200) := hide (fun j hj => by
              by_cases e : j = i
              · rw [e, ← HM.out]; exact ⟨by omega, fun k' hk' => HK.out k' (by omega)⟩
              · exact HI.out j (by omega))
            clear HI HK
            go_wp2_with fail
            go_roundw
            case rel => exact ⟨i + 1, n + (1 + M), by omega, by omega, hn2, by go_num, by go_num, HI2, by first | rfl | trivial⟩
            case measure => simp [intOf]; omega
    · have hib : ¬ (i : Int) < (N : Int) := by omega
      have hv := (HFIN.out) (by omega) (fun j hj => HI.out j (by omega))
      have HV := hide hv
      clear hv HI
      go_wp2_with fail
      go_ret
      exact ⟨rfl, true, rfl, fun _ => HV.out⟩

end Go.Proofs.Ytogmifomamgkpaa

/- Areas and cells: which area a cell is in. -/
namespace Go.Proofs.Ytogmifomamgkpaa
open Go.RowKit

theorem good_facts {rs : List (List ByteArray)} (h : goodA rs = true) : SmRs rs ∧ Even8 rs ∧ filledV rs = true := by
  unfold goodA at h
  simp only [Bool.or_eq_true, Bool.and_eq_true, decide_eq_true_eq] at h
  rcases h with h0 | ⟨⟨h1, h2⟩, h3⟩
  · have : rs = [] := List.length_eq_zero_iff.1 h0
    subst this
    exact ⟨SmRs.nil, ⟨0, fun i hi => by simp at hi⟩, rfl⟩
  · simp only [Bool.not_eq_true'] at h2
    have key : ∀ r ∈ rs, r.length ≤ 64 ∧ (∀ x ∈ r, x.size ≤ 64) ∧ r.length = (rs.headD []).length := fun r hr => by
      have hb := List.any_eq_false.1 h2 r hr
      unfold badB rowB at hb
      simp only [Bool.or_eq_true, Bool.not_eq_true', not_or, Bool.not_eq_false, Bool.and_eq_true, decide_eq_true_eq, decide_eq_false_iff_not, Decidable.not_not, List.any_eq_false] at hb
      refine ⟨hb.1.1.2, fun x hx => ?_, hb.2⟩
      have := hb.1.2 x hx
      unfold nocB cellB at this
      simp at this
      exact this.1
    exact ⟨⟨h1, fun r hr => ⟨(key r hr).1, (key r hr).2.1⟩⟩, ⟨(rs.headD []).length, fun i hi => by rw [List.getD, List.getElem?_eq_getElem hi]; exact (key _ (List.getElem_mem hi)).2.2⟩, h3⟩

theorem reg_full {rs : List (List ByteArray)} (hf : filledV rs = true) {x : RegD} (hx : x ∈ regsF [] 0 rs) : ∃ r c h w : Nat, x.row = r ∧ x.col = c ∧ x.rows = h ∧ x.cols = w ∧ x.name.size ≠ 0 ∧ FullR rs x.name r c h w := by
  obtain ⟨j, hj⟩ := List.getElem?_of_mem hx
  have hi := ((regsI_all rs).reg j x hj).2
  have hg : gapB x = false := by
    unfold filledV at hf
    rw [Bool.not_eq_true', List.any_eq_false] at hf
    have := hf x hx
    simpa using this
  obtain ⟨r, c, h, w, h1, h2, h3, h4, h5⟩ := full_of hi hg
  exact ⟨r, c, h, w, h1, h2, h3, h4, hi.ne, h5⟩

/-- Is a cell in an area? -/
def inB (i k : Nat) (x : RegD) : Bool := decide (x.row ≤ (i : Int) ∧ (i : Int) < x.row + x.rows ∧ x.col ≤ (k : Int) ∧ (k : Int) < x.col + x.cols)

theorem in_iff {rs : List (List ByteArray)} (hf : filledV rs = true) {x : RegD} (hx : x ∈ regsF [] 0 rs) {i k : Nat} (hi : i < rs.length) (hk : k < (rs.getD i []).length) : inB i k x = true ↔ x.name = cellA rs i k := by
  obtain ⟨r, c, h, w, h1, h2, h3, h4, _, h5⟩ := reg_full hf hx
  unfold inB
  rw [decide_eq_true_iff, h1, h2, h3, h4]
  have hc := h5.cell i k
  rw [mem_tris0] at hc
  constructor
  · intro hh
    exact (hc.2 (by omega)).2.2.symm
  · intro hh
    have := hc.1 ⟨hi, hk, hh.symm⟩
    omega

theorem cnt_name (s : ByteArray) : ∀ (acc : List RegD), (∀ j x, acc[j]? = some x → idxR acc x.name = some j) → acc.countP (fun x => eqB s x.name) = if (idxR acc s).isSome then 1 else 0
  | [], _ => rfl
  | x :: r, h => by
    have hr : ∀ j y, r[j]? = some y → x.name ≠ y.name ∧ idxR r y.name = some j := fun j y hy => by
      have := h (j + 1) y (by simpa using hy)
      unfold idxR at this
      split at this
      · simp at this
      · rename_i hne
        refine ⟨hne, ?_⟩
        cases hq : idxR r y.name with
        | none => rw [hq] at this; simp at this
        | some q => rw [hq] at this; simp at this; rw [this]
    have ih := cnt_name s r (fun j y hy => (hr j y hy).2)
    have hu : idxR (x :: r) s = if x.name = s then some 0 else (idxR r s).map (· + 1) := rfl
    rw [List.countP_cons, ih, hu]
    by_cases hx : x.name = s
    · rw [if_pos hx]
      have hno : (idxR r s).isSome = false := by
        cases hq : idxR r s with
        | none => rfl
        | some q =>
          obtain ⟨y, h1, h2⟩ := idxR_some hq
          exact absurd (hx.trans h2.symm) (hr q y h1).1
      rw [hno]
      unfold eqB
      simp [hx]
    · rw [if_neg hx]
      unfold eqB
      cases idxR r s <;> simp [hx]

theorem in_cnt {rs : List (List ByteArray)} (hf : filledV rs = true) {i k : Nat} (hi : i < rs.length) (hk : k < (rs.getD i []).length) : (regsF [] 0 rs).countP (inB i k) = min 1 (cellA rs i k).size := by
  have hr := regsI_all rs
  have e : (regsF [] 0 rs).countP (inB i k) = (regsF [] 0 rs).countP (fun x => eqB (cellA rs i k) x.name) := by
    apply List.countP_congr
    intro x hx
    rw [in_iff hf hx hi hk]
    unfold eqB
    simp
  rw [e, cnt_name _ _ (fun j x hx => (hr.reg j x hx).1)]
  by_cases h0 : (cellA rs i k).size = 0
  · rw [h0, if_neg]
    · rfl
    · intro hs
      cases hq : idxR (regsF [] 0 rs) (cellA rs i k) with
      | none => rw [hq] at hs; cases hs
      | some q =>
        obtain ⟨y, h1, h2⟩ := idxR_some hq
        have := (hr.reg q y h1).2.ne
        rw [h2] at this
        exact this h0
  · have := hr.all _ (mem_tris0.2 ⟨hi, hk, rfl⟩) h0
    simp only at this
    rw [if_pos this]
    omega

theorem areasC_len (xs : List RegD) : (areasC xs).length = xs.length * 5 := by
  induction xs with
  | nil => rfl
  | cons x r ih => simp [areasC, areaC] at ih ⊢; omega

/-- An area in memory. -/
structure ArAt (w : World) (g off : Nat) (x : RegD) : Prop where
  c0 : w.cell? ⟨g, off, none⟩ = some (.string x.name)
  c1 : w.cell? ⟨g, off + 1, none⟩ = some (.int .i64 x.row)
  c2 : w.cell? ⟨g, off + 2, none⟩ = some (.int .i64 x.col)
  c3 : w.cell? ⟨g, off + 3, none⟩ = some (.int .i64 x.rows)
  c4 : w.cell? ⟨g, off + 4, none⟩ = some (.int .i64 x.cols)

theorem ar_own {w : World} {base e n : Nat} {u : Value} {xs : List RegD} (h : w.ownsRow base e 5 u n (areasC xs)) (hn : n = xs.length) {i : Nat} (hi : i < xs.length) : ∃ g cap, u = .slice (some ⟨g, 0, none⟩) n cap ∧ g < w.heap.size ∧ ArAt w g (i * 5) (xs.getD i noReg) := by
  subst hn
  have hh := h
  rcases h.2 with ⟨_, h2⟩ | ⟨g, cap, cur, hv, hb, hg, _⟩
  · omega
  · rw [hv] at hh
    refine ⟨g, cap, hv, (Array.getElem?_eq_some_iff.1 hg).1, ?_⟩
    have key : ∀ (xs : List RegD) (i : Nat), i < xs.length → ∀ j, j < 5 → (areasC xs)[i * 5 + j]? = (areaC (xs.getD i noReg))[j]? := by
      intro xs
      induction xs with
      | nil => intro i h; simp at h
      | cons a r ih =>
        intro i h j hj
        cases i with
        | zero =>
          simp only [areasC, List.flatMap_cons, Nat.zero_mul, Nat.zero_add]
          rw [List.getElem?_append_left (by simpa [areaC] using hj)]
          simp
        | succ i =>
          have := ih i (by simp at h; omega) j hj
          simp only [areasC, List.flatMap_cons] at this ⊢
          rw [List.getElem?_append_right (by simp [areaC]; omega)]
          rw [show (i + 1) * 5 + j - (areaC a).length = i * 5 + j by simp [areaC]; omega]
          rw [List.getD_cons_succ]
          exact this
    have cl : ∀ j, j < 5 → w.cell? ⟨g, i * 5 + j, none⟩ = (areaC (xs.getD i noReg))[j]? := fun j hj => by
      rw [hh.cellAt (i * 5 + j) (by omega)]
      exact key xs i hi j hj
    exact ⟨cl 0 (by decide), cl 1 (by decide), cl 2 (by decide), cl 3 (by decide), cl 4 (by decide)⟩

end Go.Proofs.Ytogmifomamgkpaa

/- AreaApart: the statement's own walk. -/
namespace Go.Proofs.Ytogmifomamgkpaa
open Go.RowKit

set_option maxRecDepth 100000 in
set_option maxHeartbeats 16000000 in
theorem areaApart_walk (v : Value) (rs : List (List ByteArray)) (w : World) (hx : Rws w v rs) (hl : rs.length ≤ maxLen) (hr : ∀ row ∈ rs, row.length ≤ maxLen ∧ ∀ x ∈ row, x.size ≤ maxLen) (hm : MaxAt w) :
    Calls Try.prog 4 #[v] w fun e w' => e = .returned (.bool true) ∧ Below w.heap.size w w' := by
  have cL := light8_any rs v w hx hl hr
  have cG := fun (hp : LightP rs) => good8_any rs v w hx hp.ok
  have cR := fun (hp : LightP rs) (w' : World) (hb : Below w.heap.size w w') => rects8_any rs v w' (hx.below hb) hp.ok
  have cl := fun w' (hb : Below w.heap.size w w') => lives8_any w' (hm.below hb)
  have hra : goodA rs = true → rectsA rs = regsF [] 0 rs := fun h => by unfold rectsA; rw [if_pos h]
  have hgf := fun (h : goodA rs = true) => good_facts h
  have hok : goodA rs = true → SmR (regsF [] 0 rs) 4096 ∧ RwB (regsF [] 0 rs) := fun h => regs_ok rs (hgf h).1.1 (fun r hr => ((hgf h).1.2 r hr).1)
  have hin := fun (h : goodA rs = true) i (hi : i < rs.length) k (hk : k < (rs.getD i []).length) x (hx : x ∈ regsF [] 0 rs) => in_iff (hgf h).2.2 hx hi hk
  have hcn := fun (h : goodA rs = true) i (hi : i < rs.length) k (hk : k < (rs.getD i []).length) => in_cnt (hgf h).2.2 hi hk
  have hrow : LightP rs → ∀ ao cap, v = .slice ao rs.length cap → ∀ i, i < rs.length → ∃ b off ua uc, ao = some ⟨b, off, none⟩ ∧ b < w.heap.size ∧ w.cell? ⟨b, off + i, none⟩ = some (.slice ua (rs.getD i []).length uc) ∧ (rs.getD i []).length ≤ 1500 ∧ ∀ k, k < (rs.getD i []).length → ∃ b' o', ua = some ⟨b', o', none⟩ ∧ b' < w.heap.size ∧ w.cell? ⟨b', o' + k, none⟩ = some (.string (cellA rs i k)) ∧ (cellA rs i k).size ≤ 200 := fun hp ao cap hv i hi => by
    subst hv
    obtain ⟨b', o', ua, uc, e, hb, h1, h2⟩ := rws_row8 hx rfl i hi
    exact ⟨b', o', ua, uc, e, hb, h1, (hp.2 i hi).1, fun k hk => by
      obtain ⟨y1, y2, y3, y4, y5⟩ := strs_cell8 h2 k hk
      exact ⟨y1, y2, y3, y4, y5, (hp.2 i hi).2 k hk⟩⟩
  obtain ⟨ao, cap, hv⟩ : ∃ ao cap, v = .slice ao rs.length cap := by
    rcases hx.val with ⟨h0, ao, cap, h⟩ | ⟨b, off, cap, h, _⟩
    · exact ⟨ao, cap, by rw [h0]; exact h⟩
    · exact ⟨_, _, h⟩
  have hrow2 := fun hp => hrow hp ao cap hv
  have hN15 : LightP rs → rs.length ≤ 1500 := fun hp => hp.1
  subst hv
  obtain ⟨N, hN⟩ : ∃ N, N = rs.length := ⟨_, rfl⟩
  rw [← hN] at cL cG cR hrow2 hin hcn hN15 ⊢
  generalize LightP rs = LP at *
  generalize rectsA rs = RA at *
  generalize regsF [] 0 rs = RR at *
  generalize goodA rs = GA at *
  have CL0 := hide cL
  have CG := hide cG
  have CR := hide cR
  have CV := hide cl
  have HRA := hide hra
  have HOK := hide hok
  have HIN := hide hin
  have HCN := hide hcn
  have HROW := hide hrow2
  clear cL cG cR cl hra hok hin hcn hrow hrow2 hgf hx hl hr hm hN
  go_enter Try.func4, Try.ntmps4
  go_wp2_with fail
  refine Calls.mono CL0.out ?_
  rintro e w1 ⟨hw1, B, rfl, hB⟩
  subst w1
  clear CL0
  cases B
  · have c1 := (CV.out) w (Below.refl _ _)
    have C1 := hide c1
    clear c1 CV CG CR HRA HOK HIN HCN HROW hB
    go_wp2_with fail
    refine Calls.mono C1.out ?_
    rintro e w2 ⟨rfl, hb⟩
    have HB := hide hb
    clear hb
    go_wp2_with fail
    go_ret
    exact ⟨rfl, HB.out⟩
  · have hlp := hB rfl
    have c1 := (CG.out) hlp
    have c2 := (CR.out) hlp
    have hrow := (HROW.out) hlp
    have hNl := hN15 hlp
    have C1 := hide c1
    have C2 := hide c2
    have HR2 := hide hrow
    clear c1 c2 hrow CG CR HROW hB hN15 hlp
    go_wp2_with fail
    refine Calls.mono C1.out ?_
    rintro e w2 ⟨rfl, hw2⟩
    have HB2 := hide hw2
    clear hw2 C1
    cases GA
    · have c1 := (CV.out) w2 HB2.out
      have C1 := hide c1
      clear c1 CV C2 HRA HOK HIN HCN HR2
      go_wp2_with fail
      refine Calls.mono C1.out ?_
      rintro e w3 ⟨rfl, hb⟩
      have HB := hide ((HB2.out).trans (hb.mono (HB2.out).size))
      clear hb HB2
      go_wp2_with fail
      go_ret
      exact ⟨rfl, HB.out⟩
    · have hra := (HRA.out) rfl
      have hok := (HOK.out) rfl
      have hin := (HIN.out) rfl
      have hcn := (HCN.out) rfl
      subst hra
      have c2 := (C2.out) w2 HB2.out
      have C3 := hide c2
      have HOK2 := hide hok
      have HIN2 := hide hin
      have HCN2 := hide hcn
      clear c2 C2 HRA HOK HIN HCN hok hin hcn
      go_wp2_with fail
      refine Calls.mono C3.out ?_
      rintro e w3 ⟨hw3, u, rfl, hown⟩
      have HB3 := hide ((HB2.out).trans (hw3.mono (HB2.out).size))
      have har := fun j (hj : j < RA.length) => ar_own hown rfl hj
      obtain ⟨ua, uc, rfl⟩ := own_slice8 hown
      have HAR := hide har
      have hq := (HOK2.out).1.1
      have hxb : ∀ j, j < RA.length → RA.getD j noReg ∈ RA := fun j hj => by rw [List.getD, List.getElem?_eq_getElem hj]; exact List.getElem_mem hj
      have hct : ∀ i k j, j < RA.length → (RA.take (j + 1)).countP (inB i k) = (RA.take j).countP (inB i k) + if inB i k (RA.getD j noReg) = true then 1 else 0 := fun i k j hj => by
        rw [List.take_add_one, List.countP_append, List.getD, List.getElem?_eq_getElem hj]
        simp [List.countP_singleton]
      have hce : ∀ i k, (RA.take RA.length).countP (inB i k) = RA.countP (inB i k) := fun i k => by rw [List.take_length]
      have hcl : ∀ i k j, (RA.take j).countP (inB i k) ≤ RA.length := fun i k j => Nat.le_trans List.countP_le_length (by simp; omega)
      have HXB := hide hxb
      have HCT := hide hct
      have HCE := hide hce
      have HCL := hide hcl
      obtain ⟨Q, hQ⟩ : ∃ Q, Q = RA.length := ⟨_, rfl⟩
      rw [← hQ] at HAR hq HXB HCT HCE HCL ⊢
      clear hw3 C3 HB2 hown har hxb hct hce hcl hQ
      go_wp2_with fail
      go_loopw [23] (fun a wx => ∃ i : Nat, i ≤ N ∧ a = .int .i64 (i : Int) ∧ Hid (Below w3.heap.size w3 wx)) (fun a _ => (N - intOf a).toNat)
      case atStart => exact ⟨0, by omega, by go_num, hide (Below.refl _ _)⟩
      case round =>
        obtain ⟨i, hi, rfl, HW⟩ := hrel
        by_cases hiN : i < N
        · have hib : (i : Int) < (N : Int) := by omega
          obtain ⟨b, off, ur, vr, rfl, hb, hc1, hMl, hck⟩ := (HR2.out) i hiN
          have hc2 := ((HW.out).cell (p := ⟨b, off + i, none⟩) (Nat.lt_of_lt_of_le hb (HB3.out).size)).trans (((HB3.out).cell (p := ⟨b, off + i, none⟩) hb).trans hc1)
          have HCK := hide hck
          have hin := (HIN2.out) i hiN
          have hcn := (HCN2.out) i hiN
          obtain ⟨M, hM⟩ : ∃ M, M = (rs.getD i []).length := ⟨_, rfl⟩
          rw [← hM] at hc2 hMl HCK hin hcn
          have HIN3 := hide hin
          have HCN3 := hide hcn
          clear hck hc1 hin hcn hM HIN2 HCN2 HR2
          go_wp2_with fail
          clear hc2
          go_loopw [31] (fun a wx => ∃ k : Nat, k ≤ M ∧ a = .int .i64 (k : Int) ∧ Hid (Below w3.heap.size w3 wx)) (fun a _ => (M - intOf a).toNat)
          case atStart => exact ⟨0, by omega, by go_num, HW⟩
          case round =>
            clear HW
            obtain ⟨k, hk, rfl, HW⟩ := hrel
            by_cases hkM : k < M
            · have hkb : (k : Int) < (M : Int) := by omega
              obtain ⟨b2, o2, rfl, hb2, hc1, hsz⟩ := (HCK.out) k hkM
              have hc2 := ((HW.out).cell (p := ⟨b2, o2 + k, none⟩) (Nat.lt_of_lt_of_le hb2 (HB3.out).size)).trans (((HB3.out).cell (p := ⟨b2, o2 + k, none⟩) hb2).trans hc1)
              have hin := (HIN3.out) k hkM
              have hcn := (HCN3.out) k hkM
              generalize cellA rs i k = s at *
              have HIN4 := hide hin
              have HCN4 := hide hcn
              clear hin hcn hc1 HIN3 HCN3 HCK
              go_wp2_with fail
              clear hc2
              go_loopw [7, 38] (fun c a wx => ∃ j : Nat, j ≤ Q ∧ a = .int .i64 (j : Int) ∧ c = .int .i64 ((RA.take j).countP (inB i k) : Int) ∧ Hid (Below w3.heap.size w3 wx)) (fun _ a _ => (Q - intOf a).toNat)
              case atStart => exact ⟨0, by omega, by go_num, rfl, HW⟩
              case round =>
                clear HW
                obtain ⟨j, hj, rfl, rfl, HW⟩ := hrel
                have hcl := (HCL.out) i k j
                by_cases hjQ : j < Q
                · have hjb : (j : Int) < (Q : Int) := by omega
                  obtain ⟨g, cp, hsl, hg, ra⟩ := (HAR.out) j hjQ
                  simp only [Value.slice.injEq] at hsl
                  obtain ⟨rfl, _, _⟩ := hsl
                  have hmem := (HXB.out) j hjQ
                  have hin := (HIN4.out) _ hmem
                  have hct := (HCT.out) i k j hjQ
                  have hs1 := (HOK2.out).1.2 _ hmem
                  have hs2 := (HOK2.out).2 _ hmem
                  have c0 := ((HW.out).cell (p := ⟨g, j * 5, none⟩) hg).trans ra.c0
                  have c1 := ((HW.out).cell (p := ⟨g, j * 5 + 1, none⟩) hg).trans ra.c1
                  have c2 := ((HW.out).cell (p := ⟨g, j * 5 + 2, none⟩) hg).trans ra.c2
                  have c3 := ((HW.out).cell (p := ⟨g, j * 5 + 3, none⟩) hg).trans ra.c3
                  have c4 := ((HW.out).cell (p := ⟨g, j * 5 + 4, none⟩) hg).trans ra.c4
                  generalize RA.getD j noReg = x at *
                  obtain ⟨nm, x1, x2, x3, x4, x5⟩ := x
                  unfold inB at hin
                  simp only at c0 c1 c2 c3 c4 hin hs1 hs2
                  have hW2 : Hid (Below w3.heap.size w3 (wr.alloc (.cells #[.string nm, .int .i64 x1, .int .i64 x2, .int .i64 x3, .int .i64 x4] 39))) := hide ((HW.out).alloc (HW.out).size _)
                  obtain ⟨g1, g2, g3, g4, g5, g6, g7⟩ := hs1
                  by_cases hi4 : x1 ≤ (i : Int) ∧ (i : Int) < x1 + x3 ∧ x2 ≤ (k : Int) ∧ (k : Int) < x2 + x4
                  · obtain ⟨t1, t2, t3, t4⟩ := hi4
                    have hnm := hin.1 (decide_eq_true ⟨t1, t2, t3, t4⟩)
                    have hib4 : inB i k ⟨nm, x1, x2, x3, x4, x5⟩ = true := by unfold inB; exact decide_eq_true ⟨t1, t2, t3, t4⟩
                    rw [if_pos hib4] at hct
                    subst hnm
                    have HCT2 := hide hct
                    generalize (RA.take j).countP (inB i k) = q at *
                    clear hin hct ra hmem hib4
                    go_wp2_with fail
                    go_roundw
                    case rel => exact ⟨j + 1, by omega, by go_num, by rw [HCT2.out]; go_num, hW2⟩
                    case measure => simp [intOf]; omega
                  · have hib4 : ¬ inB i k ⟨nm, x1, x2, x3, x4, x5⟩ = true := by unfold inB; simpa using hi4
                    rw [if_neg hib4] at hct
                    have HCT2 : Hid ((RA.take (j + 1)).countP (inB i k) = (RA.take j).countP (inB i k)) := hide hct
                    generalize (RA.take j).countP (inB i k) = q at *
                    clear hin hct ra hmem hib4
                    by_cases t1 : x1 ≤ (i : Int)
                    · by_cases t2 : (i : Int) < x1 + x3
                      · by_cases t3 : x2 ≤ (k : Int)
                        · have t4 : ¬ (k : Int) < x2 + x4 := fun h => hi4 ⟨t1, t2, t3, h⟩
                          clear hi4
                          go_wp2_with fail
                          go_roundw
                          case rel => exact ⟨j + 1, by omega, by go_num, by rw [HCT2.out], hW2⟩
                          case measure => simp [intOf]; omega
                        · clear hi4
                          go_wp2_with fail
                          go_roundw
                          case rel => exact ⟨j + 1, by omega, by go_num, by rw [HCT2.out], hW2⟩
                          case measure => simp [intOf]; omega
                      · clear hi4
                        go_wp2_with fail
                        go_roundw
                        case rel => exact ⟨j + 1, by omega, by go_num, by rw [HCT2.out], hW2⟩
                        case measure => simp [intOf]; omega
                    · clear hi4
                      go_wp2_with fail
                      go_roundw
                      case rel => exact ⟨j + 1, by omega, by go_num, by rw [HCT2.out], hW2⟩
                      case measure => simp [intOf]; omega
                · have hjb : ¬ (j : Int) < (Q : Int) := by omega
                  have hjQ2 : j = Q := by omega
                  have hfin : (RA.take j).countP (inB i k) = min 1 s.size := by rw [hjQ2, (HCE.out), HCN4.out]
                  have hfi2 : (((RA.take j).countP (inB i k) : Nat) : Int) = min 1 (s.size : Int) := by rw [hfin]; omega
                  rw [hfi2]
                  clear hfin hfi2 hjQ2 hcl
                  go_wp2_with fail
                  go_roundw
                  case rel => exact ⟨k + 1, by omega, by go_num, HW⟩
                  case measure => simp [intOf]; omega
            · have hkb : ¬ (k : Int) < (M : Int) := by omega
              go_wp2_with fail
              go_roundw
              case rel => exact ⟨i + 1, by omega, by go_num, HW⟩
              case measure => simp [intOf]; omega
        · have hib : ¬ (i : Int) < (N : Int) := by omega
          have HB4 := hide ((HB3.out).trans ((HW.out).mono (HB3.out).size))
          have c1 := (CV.out) wr HB4.out
          have C1 := hide c1
          clear c1 CV
          go_wp2_with fail
          refine Calls.mono C1.out ?_
          rintro e w5 ⟨rfl, hb5⟩
          have HB5 := hide ((HB4.out).trans (hb5.mono (HB4.out).size))
          clear hb5
          go_wp2_with fail
          go_ret
          exact ⟨rfl, HB5.out⟩

end Go.Proofs.Ytogmifomamgkpaa

/- Words that come in. -/
namespace Go.Proofs.Ytogmifomamgkpaa
open Go Go.ChangeShapes Go.WideShapes Go.RowKit

theorem cl_tk : Try.prog.cellsOf 25 = 4 := by kernel_rfl

theorem cl_int6 : Try.prog.cellsOf 3 = 1 := by kernel_rfl

theorem cl_str6 : Try.prog.cellsOf 9 = 1 := by kernel_rfl

section

variable {H : Type} {enc : TypeId × Value → H} {w : World} {base : Nat} {spare : Nat → Bool} {held : Bool}

/-- A word as data. -/
def tkD (x : Tk) : DataW H := .agg [.lit (.int .i64 x.1.1), .lit (.int .i64 x.1.2), .lit (.string x.2.1.data.toList), .lit (.string x.2.2.data.toList)]

set_option maxRecDepth 100000 in
/-- The parts of a word. -/
theorem trod_tk {fuel : Nat} {cs : List Value} {y : DataW H × List MemPlace} (h : DataW.trod enc Try.prog w base spare held fuel 25 cs = some y) :
    ∃ x : Tk, cs = [.int .i64 x.1.1, .int .i64 x.1.2, .string x.2.1, .string x.2.2] ∧ y = (tkD x, []) ∧ (Lit.int .i64 x.1.1).wf = true ∧ (Lit.int .i64 x.1.2).wf = true ∧ x.2.1.size ≤ maxLen ∧ x.2.2.size ≤ maxLen := by
  obtain ⟨xs, m, rfl, rfl, hl, hx, hf⟩ := DataW.trod_struct Try.underlying25 h
  rw [cl_tk] at hl
  have h0 : DataW.trod enc Try.prog w base spare held m 3 ((cs.drop 0).take (Try.prog.cellsOf 3)) = xs[0]? := hf 0 _ rfl
  have h1 : DataW.trod enc Try.prog w base spare held m 3 ((cs.drop 1).take (Try.prog.cellsOf 3)) = xs[1]? := hf 1 _ rfl
  have h2 : DataW.trod enc Try.prog w base spare held m 9 ((cs.drop 2).take (Try.prog.cellsOf 9)) = xs[2]? := hf 2 _ rfl
  have h3 : DataW.trod enc Try.prog w base spare held m 9 ((cs.drop 3).take (Try.prog.cellsOf 9)) = xs[3]? := hf 3 _ rfl
  rw [cl_int6] at h0 h1
  rw [cl_str6] at h2 h3
  match cs, hl with
  | [c0, c1, c2, c3], _ =>
    match xs, hx with
    | [x0, x1, x2, x3], _ =>
      obtain ⟨k, e0, f0, g0⟩ := DataW.trod_int Try.underlying3 h0
      obtain ⟨n, e1, f1, g1⟩ := DataW.trod_int Try.underlying3 h1
      obtain ⟨s, e2, f2, g2⟩ := DataW.trod_string Try.underlying9 h2
      obtain ⟨t, e3, f3, g3⟩ := DataW.trod_string Try.underlying9 h3
      simp at e0 e1 e2 e3
      subst e0 e1 e2 e3 f0 f1 f2 f3
      exact ⟨((k, n), s, t), rfl, rfl, g0, g1, g2, g3⟩

set_option maxRecDepth 100000 in
/-- A word's reading asks nothing of memory. -/
theorem trod_tk_any {w' : World} {n : Nat} {cs : List Value} {y : DataW H × List MemPlace} (h : DataW.trod enc Try.prog w base spare held n 25 cs = some y) : DataW.trod enc Try.prog w' base spare held n 25 cs = some y := by
  obtain ⟨x, rfl, rfl, g0, g1, g2, g3⟩ := trod_tk h
  obtain ⟨xs, m, rfl, _, _, hx, hf⟩ := DataW.trod_struct Try.underlying25 h
  have h0 : DataW.trod enc Try.prog w base spare held m 3 [.int .i64 x.1.1] = xs[0]? := hf 0 _ rfl
  match m, h0 with
  | 0, h0 =>
    match xs, hx with
    | [_, _, _, _], _ => simp [DataW.trod] at h0
  | m + 1, _ =>
    have i1 : ∀ j : Int, (Lit.int .i64 j).wf = true → DataW.trod enc Try.prog w' base spare held (m + 1) 3 [.int .i64 j] = some (.lit (.int .i64 j), []) := fun j hj => by simp [DataW.trod, Try.underlying3, hj]
    have i2 : ∀ s : ByteArray, s.size ≤ maxLen → DataW.trod enc Try.prog w' base spare held (m + 1) 9 [.string s] = some (.lit (.string s.data.toList), []) := fun s hs => by simp [DataW.trod, Try.underlying9, hs]
    unfold DataW.trod
    rw [Try.underlying25 ]
    simp [cl_tk, cl_int6, cl_str6, i1 _ g0, i1 _ g1, i2 _ g2, i2 _ g3, tkD]

theorem mapM_mono {α β : Type} {f g : α → Option β} : ∀ {l : List α} {r : List β}, (∀ x ∈ l, ∀ y, f x = some y → g x = some y) → l.mapM f = some r → l.mapM g = some r
  | [], r, _, h => by simpa using h
  | x :: l, r, hm, h => by
    simp only [List.mapM_cons, Option.bind_eq_bind, Option.bind_eq_some_iff, Option.pure_def, Option.some.injEq] at h ⊢
    obtain ⟨y, hy, r', hr', rfl⟩ := h
    exact ⟨y, hm x (by simp) y hy, r', mapM_mono (fun z hz => hm z (by simp [hz])) hr', rfl⟩

theorem cells_mono {w' : World} {a : Addr} {n : Nat} {cs : List Value} (hb : RowKit.Below w.heap.size w w') (hn : 0 < n) (h : w.cells? base a n = some cs) : w'.cells? base a n = some cs := by
  have hlt := World.cells?_block h hn
  unfold World.cells? at h ⊢
  split at h
  · rw [if_pos ‹_›]
    exact mapM_mono (fun i _ y hy => by rw [hb.cell (p := a.add i) (by unfold Addr.add; split <;> exact hlt)]; exact hy) h
  · cases h

set_option maxRecDepth 100000 in
theorem trod_tks_below {w' : World} {fuel : Nat} {cs : List Value} {x : DataW H × List MemPlace} (hb : RowKit.Below w.heap.size w w') (h : DataW.trod enc Try.prog w base spare held fuel 22 cs = some x) : DataW.trod enc Try.prog w' base spare held fuel 22 cs = some x := by
  rcases DataW.trod_slice Try.underlying22 h with ⟨rfl, rfl⟩ | ⟨a, len, cap, elems, rest, n, rfl, rfl, rfl, _⟩
  · cases fuel with
    | zero => simp [DataW.trod] at h
    | succ n => simp [DataW.trod, Try.underlying22 ]
  · have el : ∀ i y, (w.cells? base (a.add (i * Try.prog.cellsOf 25)) (Try.prog.cellsOf 25)).bind (DataW.trod enc Try.prog w base spare held n 25) = some y →
        (w'.cells? base (a.add (i * Try.prog.cellsOf 25)) (Try.prog.cellsOf 25)).bind (DataW.trod enc Try.prog w' base spare held n 25) = some y := by
      intro i y hy
      rw [Option.bind_eq_some_iff] at hy ⊢
      obtain ⟨cs, h1, h2⟩ := hy
      exact ⟨cs, cells_mono hb (by rw [cl_tk]; decide) h1, trod_tk_any h2⟩
    unfold DataW.trod at h ⊢
    rw [Try.underlying22 ] at h ⊢
    simp only at h ⊢
    split at h
    · rename_i hg
      rw [if_pos hg]
      simp only [Option.bind_eq_some_iff, Option.map_eq_some_iff] at h ⊢
      obtain ⟨es, he, rs, hr, hd⟩ := h
      refine ⟨es, mapM_mono (fun i _ y hy => el i y hy) he, rs, ?_, hd⟩
      split at hr
      · rename_i hs
        rw [if_pos hs]
        exact mapM_mono (fun j _ y hy => el _ y hy) hr
      · rename_i hs
        rw [if_neg hs]
        exact hr
    · cases h

set_option maxRecDepth 100000 in
theorem okw_slice {r : Reach} {b0 : Nat} {v : Value} (hval : Value.okWide Try.prog w r b0 22 v) : v.cells.toList = [v] := by
  unfold Value.okWide at hval
  rw [Try.underlying22 ] at hval
  cases v <;> simp_all [Cell.okWide, Cell.ok, Value.cells]

set_option maxRecDepth 100000 in
/-- Words that come in, and that they read behind the call as they did. -/
theorem open_tks {r : Reach} {b0 : Nat} {v : Value} {d : DataW H} {ps : List MemPlace} (hval : Value.okWide Try.prog w r b0 22 v) (hd : DataW.Trod enc Try.prog w base spare held 22 v d ps) :
    ∃ l : List Tk, Tks w v l ∧ l.length ≤ maxLen ∧ (∀ x ∈ l, x.2.1.size ≤ maxLen ∧ x.2.2.size ≤ maxLen) ∧ ∀ w', RowKit.Below w.heap.size w w' → DataW.Trod enc Try.prog w' base spare held 22 v d ps := by
  obtain ⟨fuel, hf⟩ := hd
  have hk : ∀ w', RowKit.Below w.heap.size w w' → DataW.Trod enc Try.prog w' base spare held 22 v d ps := fun w' hb => ⟨fuel, trod_tks_below hb hf⟩
  rw [okw_slice hval] at hf
  rcases DataW.trod_slice Try.underlying22 hf with ⟨hv, _⟩ | ⟨a, len, cap, elems, rest, n, _, hv, _, _, hlc, hm, hlen, hel, _, _⟩
  · simp at hv
    exact ⟨[], ⟨.inl ⟨rfl, _, _, hv⟩⟩, by simp, by simp, hk⟩
  · simp at hv
    have each : ∀ i, i < len → ∃ x : Tk, w.cells? base (a.add (i * 4)) 4 = some [.int .i64 x.1.1, .int .i64 x.1.2, .string x.2.1, .string x.2.2] ∧ x.2.1.size ≤ maxLen ∧ x.2.2.size ≤ maxLen := by
      intro i hi
      have h1 := hel i hi
      rw [List.getElem?_eq_getElem (by omega), Option.bind_eq_some_iff, cl_tk] at h1
      obtain ⟨cs, h2, h3⟩ := h1
      obtain ⟨x, rfl, _, _, _, g2, g3⟩ := trod_tk h3
      exact ⟨x, h2, g2, g3⟩
    let f : Nat → Tk := fun i => if h : i < len then (each i h).choose else ((0, 0), ⟨#[]⟩, ⟨#[]⟩)
    have hf2 : ∀ i, i < len → w.cells? base (a.add (i * 4)) 4 = some [.int .i64 (f i).1.1, .int .i64 (f i).1.2, .string (f i).2.1, .string (f i).2.2] ∧ (f i).2.1.size ≤ maxLen ∧ (f i).2.2.size ≤ maxLen := by
      intro i hi
      have := (each i hi).choose_spec
      simpa [f, hi] using this
    refine ⟨(List.range len).map f, ⟨?_⟩, by simp; omega, ?_, hk⟩
    · by_cases h0 : len = 0
      · subst h0
        exact .inl ⟨rfl, _, _, hv⟩
      · obtain ⟨b, off, spot⟩ := a
        have hc0 := (World.cells?_some (hf2 0 (by omega)).1).2.2 0 (by decide)
        have hspot : spot = none := by
          have : w.cell? (⟨b, off, spot⟩ : Addr) = some (.int .i64 (f 0).1.1) := by simpa [Addr.add] using hc0
          exact World.cell?_spot this
        subst hspot
        have hlt : b < w.heap.size := World.cells?_block (a := (⟨b, off, none⟩ : Addr)) (n := 4) (by simpa [Addr.add] using (hf2 0 (by omega)).1) (by decide)
        refine .inr ⟨b, off, cap, by simpa using hv, hlt, fun i x hx => ?_⟩
        have hi : i < len := by have := (List.getElem?_eq_some_iff.1 hx).1; simpa using this
        have hxe : x = f i := by simp [hi] at hx; exact hx.symm
        subst hxe
        have hcc := (World.cells?_some (hf2 i hi).1).2.2
        have hadd : ∀ k, ((⟨b, off, none⟩ : Addr).add (i * 4)).add k = ⟨b, off + i * 4 + k, none⟩ := fun k => by
          unfold Addr.add
          split <;> split <;> simp_all
        have k0 := hcc 0 (by decide)
        have k1 := hcc 1 (by decide)
        have k2 := hcc 2 (by decide)
        have k3 := hcc 3 (by decide)
        rw [hadd] at k0 k1 k2 k3
        exact ⟨k0, k1, k2, k3⟩
    · intro x hx
      simp at hx
      obtain ⟨i, hi, rfl⟩ := hx
      exact (hf2 i hi).2
end

end Go.Proofs.Ytogmifomamgkpaa

/- Rows of texts that come in. -/
namespace Go.Proofs.Ytogmifomamgkpaa
open Go Go.ChangeShapes Go.WideShapes Go.RowKit

theorem cl_str8 : Try.prog.cellsOf 9 = 1 := by kernel_rfl

theorem cl_strs8 : Try.prog.cellsOf 37 = 1 := by kernel_rfl

section

variable {H : Type} {enc : TypeId × Value → H} {w : World} {base : Nat} {spare : Nat → Bool} {held : Bool}

theorem add8 (b off i : Nat) : ((⟨b, off, none⟩ : Addr).add (i * 1)).add 0 = ⟨b, off + i, none⟩ := by
  unfold Addr.add
  split <;> split <;> simp_all

/-- A row's cells, each of one. -/
theorem row_cells {a : Addr} {len : Nat} {f : Nat → Value} (h0 : 0 < len) (hf : ∀ i, i < len → w.cells? base (a.add (i * 1)) 1 = some [f i]) :
    ∃ b off, a = ⟨b, off, none⟩ ∧ b < w.heap.size ∧ ∀ i, i < len → w.cell? ⟨b, off + i, none⟩ = some (f i) := by
  obtain ⟨b, off, spot⟩ := a
  have hc0 := (World.cells?_some (hf 0 h0)).2.2 0 (by decide)
  have hspot : spot = none := by
    have : w.cell? (⟨b, off, spot⟩ : Addr) = some (f 0) := by simpa [Addr.add] using hc0
    exact World.cell?_spot this
  subst hspot
  refine ⟨b, off, rfl, World.cells?_block (a := (⟨b, off, none⟩ : Addr)) (n := 1) (by simpa [Addr.add] using hf 0 h0) (by decide), fun i hi => ?_⟩
  have hcc := (World.cells?_some (hf i hi)).2.2 0 (by decide)
  rw [add8] at hcc
  simpa using hcc

set_option maxRecDepth 100000 in
theorem trod_strs {fuel : Nat} {cs : List Value} {y : DataW H × List MemPlace} (h : DataW.trod enc Try.prog w base spare held fuel 37 cs = some y) :
    ∃ u xs, cs = [u] ∧ Strs w u xs ∧ xs.length ≤ maxLen ∧ ∀ x ∈ xs, x.size ≤ maxLen := by
  rcases DataW.trod_slice Try.underlying37 h with ⟨hv, _⟩ | ⟨a, len, cap, elems, rest, n, _, hv, _, _, hlc, hm, hlen, hel, _, _⟩
  · exact ⟨_, [], hv, ⟨.inl ⟨rfl, _, _, rfl⟩⟩, by simp, by simp⟩
  · have each : ∀ i, i < len → ∃ x : ByteArray, w.cells? base (a.add (i * 1)) 1 = some [.string x] ∧ x.size ≤ maxLen := by
      intro i hi
      have h1 := hel i hi
      rw [List.getElem?_eq_getElem (by omega), Option.bind_eq_some_iff, cl_str8] at h1
      obtain ⟨cs, h2, h3⟩ := h1
      obtain ⟨s, e2, _, g2⟩ := DataW.trod_string Try.underlying9 h3
      subst e2
      exact ⟨s, h2, g2⟩
    let f : Nat → ByteArray := fun i => if h : i < len then (each i h).choose else ByteArray.empty
    have hf2 : ∀ i, i < len → w.cells? base (a.add (i * 1)) 1 = some [.string (f i)] ∧ (f i).size ≤ maxLen := by
      intro i hi
      have := (each i hi).choose_spec
      simpa [f, hi] using this
    refine ⟨_, (List.range len).map f, hv, ⟨?_⟩, by simp; omega, ?_⟩
    · by_cases h0 : len = 0
      · subst h0
        exact .inl ⟨rfl, _, _, rfl⟩
      · obtain ⟨b, off, rfl, hlt, hcc⟩ := row_cells (f := fun i => .string (f i)) (by omega) (fun i hi => (hf2 i hi).1)
        refine .inr ⟨b, off, cap, by simp, hlt, fun i x hx => ?_⟩
        have hi : i < len := by have := (List.getElem?_eq_some_iff.1 hx).1; simpa using this
        have hxe : x = f i := by simp [hi] at hx; exact hx.symm
        subst hxe
        exact hcc i hi
    · intro x hx
      simp at hx
      obtain ⟨i, hi, rfl⟩ := hx
      exact (hf2 i hi).2

set_option maxRecDepth 100000 in
theorem okw_rows {r : Reach} {b0 : Nat} {v : Value} (hval : Value.okWide Try.prog w r b0 26 v) : v.cells.toList = [v] := by
  unfold Value.okWide at hval
  rw [Try.underlying26 ] at hval
  cases v <;> simp_all [Cell.okWide, Cell.ok, Value.cells]

set_option maxRecDepth 100000 in
/-- Rows that come in. -/
theorem open_rws {r : Reach} {b0 : Nat} {v : Value} {d : DataW H} {ps : List MemPlace} (hval : Value.okWide Try.prog w r b0 26 v) (hd : DataW.Trod enc Try.prog w base spare held 26 v d ps) :
    ∃ rs : List (List ByteArray), Rws w v rs ∧ rs.length ≤ maxLen ∧ ∀ row ∈ rs, row.length ≤ maxLen ∧ ∀ x ∈ row, x.size ≤ maxLen := by
  obtain ⟨fuel, hf⟩ := hd
  rw [okw_rows hval] at hf
  rcases DataW.trod_slice Try.underlying26 hf with ⟨hv, _⟩ | ⟨a, len, cap, elems, rest, n, _, hv, _, _, hlc, hm, hlen, hel, _, _⟩
  · simp at hv
    exact ⟨[], ⟨.inl ⟨rfl, _, _, hv⟩⟩, by simp, by simp⟩
  · simp at hv
    have each : ∀ i, i < len → ∃ p : Value × List ByteArray, w.cells? base (a.add (i * 1)) 1 = some [p.1] ∧ Strs w p.1 p.2 ∧ p.2.length ≤ maxLen ∧ ∀ x ∈ p.2, x.size ≤ maxLen := by
      intro i hi
      have h1 := hel i hi
      rw [List.getElem?_eq_getElem (by omega), Option.bind_eq_some_iff, cl_strs8] at h1
      obtain ⟨cs, h2, h3⟩ := h1
      obtain ⟨u, xs, e2, g1, g2, g3⟩ := trod_strs h3
      subst e2
      exact ⟨(u, xs), h2, g1, g2, g3⟩
    let f : Nat → Value × List ByteArray := fun i => if h : i < len then (each i h).choose else (undef, [])
    have hf2 : ∀ i, i < len → w.cells? base (a.add (i * 1)) 1 = some [(f i).1] ∧ Strs w (f i).1 (f i).2 ∧ (f i).2.length ≤ maxLen ∧ ∀ x ∈ (f i).2, x.size ≤ maxLen := by
      intro i hi
      have := (each i hi).choose_spec
      simpa [f, hi] using this
    refine ⟨(List.range len).map (fun i => (f i).2), ⟨?_⟩, by simp; omega, ?_⟩
    · by_cases h0 : len = 0
      · subst h0
        exact .inl ⟨rfl, _, _, hv⟩
      · obtain ⟨b, off, rfl, hlt, hcc⟩ := row_cells (f := fun i => (f i).1) (by omega) (fun i hi => (hf2 i hi).1)
        refine .inr ⟨b, off, cap, by simpa using hv, hlt, fun i x hx => ?_⟩
        have hi : i < len := by have := (List.getElem?_eq_some_iff.1 hx).1; simpa using this
        have hxe : x = (f i).2 := by simp [hi] at hx; exact hx.symm
        subst hxe
        exact ⟨_, hcc i hi, (hf2 i hi).2.1⟩
    · intro row hx
      simp at hx
      obtain ⟨i, hi, rfl⟩ := hx
      exact ⟨(hf2 i hi).2.2.1, (hf2 i hi).2.2.2⟩

end

end Go.Proofs.Ytogmifomamgkpaa
