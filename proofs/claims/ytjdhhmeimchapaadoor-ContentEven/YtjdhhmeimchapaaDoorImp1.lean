/- Tracks in a slice; whether all of them may be. -/
import Derived.Test.YtjdhhmeimchapaaDoorBas1
import Derived.Test.YtjdhhmeimchapaaDoorG5
namespace Go.Proofs.YtjdhhmeimchapaaDoor
open Go.RowKit

def encT (t : TrD) : List Value := (trC t).toList

def noT : TrD := ⟨(0, 0), (0, 0), false, (0, 0)⟩

/-- Tracks in a slice. -/
def TkL (w : World) (v : Value) (l : List TrD) : Prop :=
  (l = [] ∧ ∃ ao cap, v = .slice ao 0 cap) ∨
  ∃ b off cap, v = .slice (some ⟨b, off, none⟩) l.length cap ∧ b < w.heap.size ∧ ∀ i, i < l.length → ∀ j u, (encT (l.getD i noT))[j]? = some u → w.cell? ⟨b, off + i * 7 + j, none⟩ = some u

theorem TkL.below {w w' : World} {v : Value} {l : List TrD} (h : TkL w v l) (hb : Below w.heap.size w w') : TkL w' v l := by
  rcases h with h | ⟨b, off, cap, hv, hlt, hc⟩
  · exact .inl h
  · exact .inr ⟨b, off, cap, hv, Nat.lt_of_lt_of_le hlt hb.size, fun i hi j u hu => (World.cell?_of_block (w := w) (hb.block b hlt)).trans (hc i hi j u hu)⟩

theorem TkL.slice {w : World} {v : Value} {l : List TrD} (h : TkL w v l) : ∃ ao cap, v = .slice ao l.length cap := by
  rcases h with ⟨rfl, ao, cap, rfl⟩ | ⟨b, off, cap, rfl, _⟩
  · exact ⟨_, _, rfl⟩
  · exact ⟨_, _, rfl⟩

theorem TkL.seven {w : World} {b off : Nat} {l : List TrD} (hc : ∀ i, i < l.length → ∀ j u, (encT (l.getD i noT))[j]? = some u → w.cell? ⟨b, off + i * 7 + j, none⟩ = some u) (i : Nat) (hi : i < l.length) :
    w.cell? ⟨b, off + i * 7, none⟩ = some (.int .i64 (l.getD i noT).min.1) ∧ w.cell? ⟨b, off + i * 7 + 1, none⟩ = some (.int .i64 (l.getD i noT).min.2) ∧ w.cell? ⟨b, off + i * 7 + 2, none⟩ = some (.int .i64 (l.getD i noT).max.1) ∧ w.cell? ⟨b, off + i * 7 + 3, none⟩ = some (.int .i64 (l.getD i noT).max.2) ∧ w.cell? ⟨b, off + i * 7 + 4, none⟩ = some (.bool (l.getD i noT).fit) ∧ w.cell? ⟨b, off + i * 7 + 5, none⟩ = some (.int .i64 (l.getD i noT).limit.1) ∧ w.cell? ⟨b, off + i * 7 + 6, none⟩ = some (.int .i64 (l.getD i noT).limit.2) :=
  ⟨hc i hi 0 _ rfl, hc i hi 1 _ rfl, hc i hi 2 _ rfl, hc i hi 3 _ rfl, hc i hi 4 _ rfl, hc i hi 5 _ rfl, hc i hi 6 _ rfl⟩

/-- What stands while tracks are looked at. -/
structure ArS (w W : World) (v : Value) (l : List TrD) : Prop where
  l : TkL W v l
  bel : Below w.heap.size w W

theorem ArS.next {w W W' : World} {v : Value} {l : List TrD} (h : ArS w W v l) (hb : Below W.heap.size W W') : ArS w W' v l := ⟨h.l.below hb, h.bel.trans (hb.mono h.bel.size)⟩

set_option maxRecDepth 100000 in
set_option maxHeartbeats 4000000 in
theorem allRight_any (v : Value) (l : List TrD) (w : World) (hk : KW w) (hl : TkL w v l) (hN : l.length ≤ 1000000) : Calls Tryd.prog 35 #[v] w fun e w' => e = .returned (.bool (l.all rightB)) ∧ Below w.heap.size w w' := by
  have ST0 := hide (ArS.mk hl (Below.refl _ w))
  have CR := hide (fun t W (h : ArS w W v l) => (right_any t W (hk.below h.bel)).mono fun _ _ hh => And.intro hh.1 (h.next hh.2))
  obtain ⟨ao, cap, rfl⟩ := hl.slice
  have hA : ∀ k, k < l.length → rightB (l.getD k noT) = false → l.all rightB = false := fun k hk hf => by
    rw [List.all_eq_false]
    exact ⟨l.getD k noT, by rw [List.getD_eq_getElem?_getD, List.getElem?_eq_getElem hk]; exact List.getElem_mem hk, by rw [hf]; simp⟩
  have hB : (∀ k, k < l.length → rightB (l.getD k noT) = true) → l.all rightB = true := fun h => by
    rw [List.all_eq_true]
    intro x hx
    obtain ⟨k, hk, rfl⟩ := List.mem_iff_getElem.1 hx
    have := h k hk
    rw [List.getD_eq_getElem?_getD, List.getElem?_eq_getElem hk] at this
    exact this
  have HA := hide hA
  have HB := hide hB
  generalize l.all rightB = R at *
  obtain ⟨N, hN0⟩ : ∃ N, N = l.length := ⟨_, rfl⟩
  rw [← hN0] at ST0 CR HA HB hN ⊢
  have HN := hide hN0
  clear hN0 hk hl hA hB
  unfold trC at CR
  go_enter Tryd.func35, Tryd.ntmps35
  go_wp2_with fail
  go_loopw [7] (fun i wr => ∃ k : Nat, k ≤ N ∧ i = .int .i64 (k : Int) ∧ Hid (∀ j, j < k → rightB (l.getD j noT) = true) ∧ Hid (ArS w wr (.slice ao N cap) l)) (fun i _ => (N - intOf i).toNat)
  case atStart => exact ⟨0, Nat.zero_le _, by go_num, hide (fun j hj => by omega), ST0⟩
  case round =>
    clear ST0
    obtain ⟨k, hk, rfl, HP, ST⟩ := hrel
    by_cases hkl : k < N
    · have hi : (k : Int) < (N : Int) := by omega
      have hn2 : ¬ (k : Int) < 0 := by omega
      have hkl2 : k < l.length := by rw [← HN.out]; exact hkl
      rcases (ST.out).l with ⟨he, _⟩ | ⟨b, off, cap2, hv, hlt, hcell⟩
      · rw [he] at hkl2
        exact absurd hkl2 (Nat.not_lt_zero _)
      · obtain ⟨hao, -, -⟩ : ao = some ⟨b, off, none⟩ ∧ N = l.length ∧ cap = cap2 := by simpa using hv
        subst hao
        obtain ⟨x0, x1, x2, x3, x4, x5, x6⟩ := TkL.seven hcell k hkl2
        have hhit := (HA.out) k hkl
        have hP2 : rightB (l.getD k noT) = true → ∀ j, j < k + 1 → rightB (l.getD j noT) = true := fun hh j hj => by
          rcases Nat.lt_or_ge j k with h1 | h1
          · exact (HP.out) j h1
          · obtain rfl : j = k := by omega
            exact hh
        have C1 := hide (fun W h => (CR.out) (l.getD k noT) W h)
        generalize l.getD k noT = x at x0 x1 x2 x3 x4 x5 x6 hhit hP2 C1
        obtain ⟨⟨a1, a2⟩, ⟨a3, a4⟩, q, ⟨a5, a6⟩⟩ := x
        generalize rightB ⟨(a1, a2), (a3, a4), q, (a5, a6)⟩ = OB at hhit hP2 C1
        simp only at x0 x1 x2 x3 x4 x5 x6 C1
        have HH2 := hide hhit
        have HP2 := hide hP2
        have ST2 := hide ((ST.out).next ((Below.refl _ wr).alloc (Nat.le_refl _) (.cells #[.int .i64 a1, .int .i64 a2, .int .i64 a3, .int .i64 a4, .bool q, .int .i64 a5, .int .i64 a6] 59)))
        have t2 : TkR (wr.alloc (.cells #[.int .i64 a1, .int .i64 a2, .int .i64 a3, .int .i64 a4, .bool q, .int .i64 a5, .int .i64 a6] 59)) wr.heap.size #[.int .i64 a1, .int .i64 a2, .int .i64 a3, .int .i64 a4, .bool q, .int .i64 a5, .int .i64 a6] := heap_alloc_new wr _
        clear hv hcell hhit hP2 CR HA HP ST
        go_upto_region 4 with fail
        generalize wr.alloc (.cells #[.int .i64 a1, .int .i64 a2, .int .i64 a3, .int .i64 a4, .bool q, .int .i64 a5, .int .i64 a6] 59) = w2 at *
        have y0 := TkR.cell t2 0
        have y1 := TkR.cell t2 1
        have y2 := TkR.cell t2 2
        have y3 := TkR.cell t2 3
        have y4 := TkR.cell t2 4
        have y5 := TkR.cell t2 5
        have y6 := TkR.cell t2 6
        simp only [List.getElem?_toArray, List.getElem?_cons_zero, List.getElem?_cons_succ] at y0 y1 y2 y3 y4 y5 y6
        clear t2 x0 x1 x2 x3 x4 x5 x6
        go_wp2_with fail
        refine Calls.mono ((C1.out) _ ST2.out) ?_
        rintro ee w3 ⟨rfl, hs⟩
        have ST3 := hide hs
        clear hs ST2 C1
        cases OB
        · have HV : Hid (R = false) := hide ((HH2.out) rfl)
          clear HP2 HH2 HB
          go_wp2_with fail
          go_ret
          exact ⟨by rw [HV.out] <;> rfl, (ST3.out).bel⟩
        · have HP3 := hide ((HP2.out) rfl)
          clear HP2 HH2
          go_wp2_with fail
          go_roundw
          case rel => exact ⟨k + 1, by omega, by go_num, HP3, ST3⟩
          case measure => simp [intOf]; omega
    · have hi : ¬ (k : Int) < (N : Int) := by omega
      have hv := (HB.out) (fun j hj => (HP.out) j (by omega))
      have HV := hide hv
      clear hv HB HA
      go_wp2_with fail
      go_ret
      exact ⟨by rw [HV.out] <;> rfl, (ST.out).bel⟩

end Go.Proofs.YtjdhhmeimchapaaDoor
