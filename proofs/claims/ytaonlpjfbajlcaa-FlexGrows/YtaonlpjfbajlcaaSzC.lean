/- Tracks that are sized, in a slice: the very same. -/
import Derived.Test.YtaonlpjfbajlcaaSzB
import Derived.Test.YtaonlpjfbajlcaaBasE
namespace Go.Proofs.Ytaonlpjfbajlcaa
open Go.RowKit

theorem SzL.slice {w : World} {v : Value} {l : List SzD} (h : SzL w v l) : ∃ ao cap, v = .slice ao l.length cap := by
  rcases h with ⟨rfl, ao, cap, rfl⟩ | ⟨b, off, cap, rfl, _⟩
  · exact ⟨_, _, rfl⟩
  · exact ⟨_, _, rfl⟩

theorem SzL.seven {w : World} {b off : Nat} {l : List SzD} (hc : ∀ i, i < l.length → ∀ j u, (szC (l.getD i noSz)).toList[j]? = some u → w.cell? ⟨b, off + i * 7 + j, none⟩ = some u) (i : Nat) (hi : i < l.length) :
    w.cell? ⟨b, off + i * 7, none⟩ = some (.int .i64 (l.getD i noSz).mn) ∧ w.cell? ⟨b, off + i * 7 + 1, none⟩ = some (.int .i64 (l.getD i noSz).mx) ∧ w.cell? ⟨b, off + i * 7 + 2, none⟩ = some (.int .i64 (l.getD i noSz).fr) ∧ w.cell? ⟨b, off + i * 7 + 3, none⟩ = some (.bool (l.getD i noSz).fit) ∧ w.cell? ⟨b, off + i * 7 + 4, none⟩ = some (.int .i64 (l.getD i noSz).cap) ∧ w.cell? ⟨b, off + i * 7 + 5, none⟩ = some (.int .i64 (l.getD i noSz).base) ∧ w.cell? ⟨b, off + i * 7 + 6, none⟩ = some (.int .i64 (l.getD i noSz).limit) :=
  ⟨hc i hi 0 _ rfl, hc i hi 1 _ rfl, hc i hi 2 _ rfl, hc i hi 3 _ rfl, hc i hi 4 _ rfl, hc i hi 5 _ rfl, hc i hi 6 _ rfl⟩

set_option maxRecDepth 100000 in
set_option maxHeartbeats 4000000 in
theorem same22_any (u v : Value) (l : List SzD) (w : World) (hu : SzL w u l) (hv : SzL w v l) (hN : l.length ≤ 1000000) : Calls Try.prog 9 #[u, v] w fun e w' => e = .returned (.bool true) ∧ Below w.heap.size w w' := by
  obtain ⟨ao, cap, rfl⟩ := hu.slice
  obtain ⟨bo, cap2, rfl⟩ := hv.slice
  obtain ⟨N, hN0⟩ : ∃ N, N = l.length := ⟨_, rfl⟩
  rw [← hN0] at hu hv hN ⊢
  have HN := hide hN0
  have HU := hide hu
  have HV := hide hv
  clear hu hv hN0
  go_enter Try.func9, Try.ntmps9
  go_wp2_with fail
  go_loopw [5] (fun i wr => ∃ k : Nat, k ≤ N ∧ i = .int .i64 (k : Int) ∧ Hid (Below w.heap.size w wr)) (fun i _ => (N - intOf i).toNat)
  case atStart => exact ⟨0, Nat.zero_le _, by go_num, hide (Below.refl _ _)⟩
  case round =>
    obtain ⟨k, hk, rfl, HB⟩ := hrel
    by_cases hkl : k < N
    · have hi : (k : Int) < (N : Int) := by omega
      have hn2 : ¬ (k : Int) < 0 := by omega
      have hn3 : (0 : Int) ≤ (k : Int) := by omega
      have hkl2 : k < l.length := by rw [← HN.out]; exact hkl
      rcases (HU.out).below HB.out with ⟨he, _⟩ | ⟨b, off, c1, h1, _, hcell⟩
      · rw [he] at hkl2
        exact absurd hkl2 (Nat.not_lt_zero _)
      · rcases (HV.out).below HB.out with ⟨he, _⟩ | ⟨b2, off2, c2, h2, _, hcell2⟩
        · rw [he] at hkl2
          exact absurd hkl2 (Nat.not_lt_zero _)
        · obtain ⟨hao, -, -⟩ : ao = some ⟨b, off, none⟩ ∧ N = l.length ∧ cap = c1 := by simpa using h1
          obtain ⟨hbo, -, -⟩ : bo = some ⟨b2, off2, none⟩ ∧ N = l.length ∧ cap2 = c2 := by simpa using h2
          subst hao hbo
          obtain ⟨x0, x1, x2, x3, x4, x5, x6⟩ := SzL.seven hcell k hkl2
          obtain ⟨y0, y1, y2, y3, y4, y5, y6⟩ := SzL.seven hcell2 k hkl2
          generalize l.getD k noSz = s at *
          obtain ⟨r1, r2, r3, r4, r5, r6, r7⟩ := s
          simp only at x0 x1 x2 x3 x4 x5 x6 y0 y1 y2 y3 y4 y5 y6
          have heq := sz_eq22 r1 r2 r3 r5 r6 r7 r4
          clear h1 h2 hcell hcell2
          go_wp2_with fail
          go_quiet (fail)
          go_wp2_with fail
          go_roundw
          case rel => exact ⟨k + 1, by omega, by go_num, hide ⟨(HB.out).os, (HB.out).tape, (HB.out).output, (HB.out).size, (HB.out).block⟩⟩
          case measure => simp [intOf]; omega
    · have hi : ¬ (k : Int) < (N : Int) := by omega
      go_wp2_with fail
      go_ret
      exact ⟨rfl, HB.out⟩
end Go.Proofs.Ytaonlpjfbajlcaa
