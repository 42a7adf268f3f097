/- Rows of ints and of bools as functions; small functions of spread and of the document. -/
import Derived.Test.YteepknanofjnmaaSpr0
import Derived.Laws.MakeOwn
import Derived.Lib.MinMax
namespace Go.Proofs.Yteepknanofjnmaa
open Go.RowKit

/-- The first N cells of a slice of ints are these. -/
def ArI (w : World) (ao : Option Addr) (N : Nat) (f : Nat → Int) : Prop :=
  N = 0 ∨ ∃ b off, ao = some ⟨b, off, none⟩ ∧ b < w.heap.size ∧ ∀ i, i < N → w.cell? ⟨b, off + i, none⟩ = some (.int .i64 (f i))

theorem ArI.below {w w' : World} {ao : Option Addr} {N : Nat} {f : Nat → Int} (h : ArI w ao N f) (hb : Below w.heap.size w w') : ArI w' ao N f := by
  rcases h with h | ⟨b, off, hv, hlt, hc⟩
  · exact .inl h
  · exact .inr ⟨b, off, hv, Nat.lt_of_lt_of_le hlt hb.size, fun i hi => (hb.cell (p := ⟨b, off + i, none⟩) hlt).trans (hc i hi)⟩

theorem ArI.of_block {w w' : World} {ao : Option Addr} {N : Nat} {f : Nat → Int} (h : ArI w ao N f) (hb : ∀ b, b < w.heap.size → w'.heap[b]? = w.heap[b]?) (hs : w.heap.size ≤ w'.heap.size) : ArI w' ao N f := by
  rcases h with h | ⟨b, off, hv, hlt, hc⟩
  · exact .inl h
  · exact .inr ⟨b, off, hv, Nat.lt_of_lt_of_le hlt hs, fun i hi => (World.cell?_of_block (w := w) (hb b hlt)).trans (hc i hi)⟩

theorem ArI.at {w : World} {ao : Option Addr} {N : Nat} {f : Nat → Int} (h : ArI w ao N f) {k : Nat} (hk : k < N) : ∃ b off, ao = some ⟨b, off, none⟩ ∧ w.cell? ⟨b, off + k, none⟩ = some (.int .i64 (f k)) := by
  rcases h with h | ⟨b, off, hv, hlt, hc⟩
  · omega
  · exact ⟨b, off, hv, hc k hk⟩

theorem ArI.at2 {w : World} {ao : Option Addr} {N : Nat} {f : Nat → Int} (h : ArI w ao N f) {k : Nat} (hk : k < N) : ∃ b off, ao = some ⟨b, off, none⟩ ∧ b < w.heap.size ∧ w.cell? ⟨b, off + k, none⟩ = some (.int .i64 (f k)) := by
  rcases h with h | ⟨b, off, hv, hlt, hc⟩
  · omega
  · exact ⟨b, off, hv, hlt, hc k hk⟩

theorem ArI.ext {w : World} {ao : Option Addr} {N : Nat} {f g : Nat → Int} (h : ArI w ao N f) (e : ∀ k, k < N → f k = g k) : ArI w ao N g := by
  rcases h with h | ⟨b, off, hv, hlt, hc⟩
  · exact .inl h
  · exact .inr ⟨b, off, hv, hlt, fun i hi => by rw [← e i hi]; exact hc i hi⟩

theorem getD_map_range (f : Nat → Int) (N k : Nat) (hk : k < N) : ((List.range N).map f).getD k 0 = f k := by
  simp [List.getD, hk]

theorem ArI.reads {w : World} {ao : Option Addr} {N : Nat} {f : Nat → Int} (h : ArI w ao N f) (cap : Nat) : Reads w (.slice ao N cap) ((List.range N).map f) := by
  rcases h with rfl | ⟨b, off, rfl, hlt, hc⟩
  · exact .inl ⟨rfl, _, _, rfl⟩
  · exact .inr ⟨b, off, cap, by simp, hlt, fun i hi => by
      have hi2 : i < N := by simpa using hi
      rw [getD_map_range f N i hi2]; exact hc i hi2⟩

theorem Reads.arI {w : World} {v : Value} {xs : List Int} (h : Reads w v xs) : ∃ ao cap, v = .slice ao xs.length cap ∧ ArI w ao xs.length (fun k => xs.getD k 0) := by
  rcases h with ⟨rfl, ao, cap, rfl⟩ | ⟨b, off, cap, rfl, hlt, hc⟩
  · exact ⟨_, _, rfl, .inl rfl⟩
  · exact ⟨_, _, rfl, .inr ⟨b, off, rfl, hlt, hc⟩⟩

/-- The first N cells of a slice of bools are these. -/
def ArB (w : World) (ao : Option Addr) (N : Nat) (f : Nat → Bool) : Prop :=
  N = 0 ∨ ∃ b off, ao = some ⟨b, off, none⟩ ∧ b < w.heap.size ∧ ∀ i, i < N → w.cell? ⟨b, off + i, none⟩ = some (.bool (f i))

theorem ArB.below {w w' : World} {ao : Option Addr} {N : Nat} {f : Nat → Bool} (h : ArB w ao N f) (hb : Below w.heap.size w w') : ArB w' ao N f := by
  rcases h with h | ⟨b, off, hv, hlt, hc⟩
  · exact .inl h
  · exact .inr ⟨b, off, hv, Nat.lt_of_lt_of_le hlt hb.size, fun i hi => (hb.cell (p := ⟨b, off + i, none⟩) hlt).trans (hc i hi)⟩

theorem ArB.at {w : World} {ao : Option Addr} {N : Nat} {f : Nat → Bool} (h : ArB w ao N f) {k : Nat} (hk : k < N) : ∃ b off, ao = some ⟨b, off, none⟩ ∧ w.cell? ⟨b, off + k, none⟩ = some (.bool (f k)) := by
  rcases h with h | ⟨b, off, hv, hlt, hc⟩
  · omega
  · exact ⟨b, off, hv, hc k hk⟩

theorem ArB.at2 {w : World} {ao : Option Addr} {N : Nat} {f : Nat → Bool} (h : ArB w ao N f) {k : Nat} (hk : k < N) : ∃ b off, ao = some ⟨b, off, none⟩ ∧ b < w.heap.size ∧ w.cell? ⟨b, off + k, none⟩ = some (.bool (f k)) := by
  rcases h with h | ⟨b, off, hv, hlt, hc⟩
  · omega
  · exact ⟨b, off, hv, hlt, hc k hk⟩

/-- A row of ints that was made here. -/
def MkI (W : World) (G N : Nat) (g : Nat → Int) : Prop := ∃ cs : Array Value, W.heap[G]? = some (.cells cs 3 (0, 0)) ∧ cs.size = N ∧ ∀ i, i < N → cs[i]? = some (.int .i64 (g i))

theorem MkI.lt {W : World} {G N : Nat} {g : Nat → Int} (h : MkI W G N g) : G < W.heap.size := by
  obtain ⟨cs, h1, _⟩ := h
  exact (Array.getElem?_eq_some_iff.1 h1).1

theorem MkI.of_block {W W' : World} {G N : Nat} {g : Nat → Int} (h : MkI W G N g) (hb : W'.heap[G]? = W.heap[G]?) : MkI W' G N g := by
  obtain ⟨cs, h1, h2⟩ := h
  exact ⟨cs, hb.trans h1, h2⟩

theorem MkI.new (W : World) (N : Nat) : MkI (W.alloc (.cells (madeCells #[.int .i64 0] N) 3)) W.heap.size N (fun _ => 0) := by
  refine ⟨_, heap_alloc_new W _, by rw [size_madeCells]; try simp, fun i hi => ?_⟩
  rw [← Array.getElem?_toList, toList_madeCells_one]
  simp [hi]

theorem MkI.cell {W : World} {G N : Nat} {g : Nat → Int} (h : MkI W G N g) {k : Nat} (hk : k < N) : W.cell? ⟨G, k, none⟩ = some (.int .i64 (g k)) := by
  obtain ⟨cs, h1, h2, h3⟩ := h
  rw [Lib.cell_of_heap h1]
  exact h3 k hk

theorem MkI.frozen {W : World} {G N : Nat} {g : Nat → Int} (h : MkI W G N g) (m : Nat) : W.frozen? ⟨G, m, none⟩ = false := by
  obtain ⟨cs, h1, h2, h3⟩ := h
  exact Lib.frozen_of_heap h1 m

def upd (g : Nat → Int) (k : Nat) (x : Int) (i : Nat) : Int := if i = k then x else g i

theorem MkI.put {W : World} {G N : Nat} {g : Nat → Int} (h : MkI W G N g) (k : Nat) (x : Int) : MkI (W.setCell ⟨G, k, none⟩ (.int .i64 x)) G N (upd g k x) := by
  obtain ⟨cs, h1, h2, h3⟩ := h
  refine ⟨cs.setIfInBounds k (.int .i64 x), ?_, by simp [h2], fun i hi => ?_⟩
  · simp [World.setCell, Array.getElem?_modify, h1]
  · unfold upd
    by_cases e : i = k
    · subst e
      rw [if_pos rfl]
      simp [h2, hi]
    · rw [if_neg e, Array.getElem?_setIfInBounds_ne (by omega)]
      exact h3 i hi

theorem MkI.ext {W : World} {G N : Nat} {f g : Nat → Int} (h : MkI W G N f) (e : ∀ k, k < N → f k = g k) : MkI W G N g := by
  obtain ⟨cs, h1, h2, h3⟩ := h
  exact ⟨cs, h1, h2, fun i hi => by rw [← e i hi]; exact h3 i hi⟩

theorem MkI.arI {W : World} {G N : Nat} {g : Nat → Int} (h : MkI W G N g) : ArI W (some ⟨G, 0, none⟩) N g :=
  .inr ⟨G, 0, rfl, h.lt, fun i hi => by rw [Nat.zero_add]; exact h.cell hi⟩

theorem made23 (N : Nat) (hN : N ≤ 1000000) (w : World) : (Instr.makeSlice 22 (.int .i64 (N : Int)) (.int .i64 (N : Int))).run Try.prog w = .ok (.slice (some ⟨w.heap.size, 0, none⟩) N N) (w.alloc (.cells (madeCells #[.int .i64 0] N) 3)) :=
  run_make_row' (P := Try.prog) 22 3 (.int .i64 0) 8 Try.underlying22 info_intF rfl .i64 .i64 N (by omega) (by omega) w

theorem bret23 {a b : Bool} (h : a = b) : (Ending.returned (Value.bool a)) = .returned (.bool b) := by rw [h]

/-- Space, and as many tracks, that may be. -/
def gdS (s n : Int) : Bool := decide (0 ≤ s) && (decide (s < 1125899906842624) && decide (n ≤ 65536))

set_option maxRecDepth 100000 in
set_option maxHeartbeats 1000000 in
theorem isGood23_any (s n : Int) (w : World) : Calls Try.prog 20 #[.int .i64 s, .int .i64 n] w fun e w' => e = .returned (.bool (gdS s n)) ∧ w' = w := by
  have hL : gdS s n = (decide (0 ≤ s) && (decide (s < 1125899906842624) && decide (n ≤ 65536))) := rfl
  have HL := hide hL
  clear hL
  go_enter Try.func20, Try.ntmps20
  go_wp2
  all_goals (go_ret; refine ⟨?_, rfl⟩; rw [HL.out]; exact bret23 (by simp_all <;> omega))

/-- All of the first may be rooms. -/
def rmS (f : Nat → Int) : Nat → Bool
  | 0 => true
  | k + 1 => rmS f k && (decide (0 ≤ f k) && decide (f k ≤ 1125899906842624))

theorem rmS_at {f : Nat → Int} : ∀ {N : Nat}, rmS f N = true → ∀ k, k < N → 0 ≤ f k ∧ f k ≤ 1125899906842624
  | 0, _, k, hk => absurd hk (Nat.not_lt_zero _)
  | N + 1, h, k, hk => by
    simp only [rmS, Bool.and_eq_true, decide_eq_true_eq] at h
    by_cases e : k = N
    · subst e; exact h.2
    · exact rmS_at h.1 k (by omega)

theorem rmS_not {f : Nat → Int} {k : Nat} : ∀ {N : Nat}, k < N → (decide (0 ≤ f k) && decide (f k ≤ 1125899906842624)) = false → rmS f N = false
  | 0, hk, _ => absurd hk (Nat.not_lt_zero _)
  | N + 1, hk, h => by
    simp only [rmS]
    by_cases e : k = N
    · subst e; rw [h]; simp
    · rw [rmS_not (by omega) h]; rfl

set_option maxRecDepth 100000 in
set_option maxHeartbeats 2000000 in
theorem areRooms_any (ao : Option Addr) (N cap : Nat) (f : Nat → Int) (w : World) (h : ArI w ao N f) (hN : N ≤ 9223372036854775807) : Calls Try.prog 23 #[.slice ao N cap] w fun e w' => e = .returned (.bool (rmS f N)) ∧ w' = w := by
  have H := hide h
  have HR : Hid (∀ k, k < N → (decide (0 ≤ f k) && decide (f k ≤ 1125899906842624)) = false → rmS f N = false) := hide (fun k hk hh => rmS_not hk hh)
  clear h
  go_enter Try.func23, Try.ntmps23
  go_wp2
  go_loop [7] (fun i => ∃ k : Nat, k ≤ N ∧ i = .int .i64 (k : Int) ∧ Hid (rmS f k = true)) (fun i => N - (intOf i).toNat)
  case atStart => exact ⟨0, Nat.zero_le _, by go_num, hide rfl⟩
  case round =>
    obtain ⟨k, hk, rfl, HP⟩ := hrel
    by_cases hkl : k < N
    · have hi : (k : Int) < (N : Int) := by omega
      have hn2 : ¬ (k : Int) < 0 := by omega
      obtain ⟨b, off, rfl, hc⟩ := (H.out).at hkl
      have HS : Hid (rmS f (k + 1) = (rmS f k && (decide (0 ≤ f k) && decide (f k ≤ 1125899906842624)))) := hide rfl
      have HRK := hide ((HR.out) k hkl)
      generalize f k = x at *
      clear HR
      by_cases h0 : x < 0
      · have HV : Hid (rmS f N = false) := hide ((HRK.out) (by simp; omega))
        clear HRK HS
        go_wp2
        go_ret
        exact ⟨bret23 HV.out.symm, rfl⟩
      · by_cases h1 : 1125899906842624 < x
        · have HV : Hid (rmS f N = false) := hide ((HRK.out) (by simp; omega))
          clear HRK HS
          go_wp2
          go_ret
          exact ⟨bret23 HV.out.symm, rfl⟩
        · have HV : Hid (rmS f (k + 1) = true) := hide (by rw [HS.out, HP.out]; simp; omega)
          clear HRK HS HP
          go_wp2
          go_round
          case rel => exact ⟨k + 1, by omega, by go_num, HV⟩
          case measure => simp [intOf]; omega
    · have hi : ¬ (k : Int) < (N : Int) := by omega
      have HV : Hid (rmS f N = true) := hide (by rw [show N = k by omega]; exact HP.out)
      clear HR HP
      go_wp2
      go_ret
      exact ⟨bret23 HV.out.symm, rfl⟩

/-- What all calls ask. -/
def rgS (s : Int) (N : Nat) (f : Nat → Int) : Bool := gdS s N && rmS f N

set_option maxRecDepth 100000 in
set_option maxHeartbeats 2000000 in
theorem rright23_any (s : Int) (ao : Option Addr) (N cap : Nat) (f : Nat → Int) (w : World) (h : ArI w ao N f) (hN : N ≤ 9223372036854775807) : Calls Try.prog 14 #[.int .i64 s, .slice ao N cap] w fun e w' => e = .returned (.bool (rgS s N f)) ∧ w' = w := by
  have H := hide h
  have HR : Hid (∀ k, k < N → (decide (0 ≤ f k) && decide (f k ≤ 1125899906842624)) = false → rmS f N = false) := hide (fun k hk hh => rmS_not hk hh)
  have HG : Hid (rgS s N f = (gdS s N && rmS f N)) := hide rfl
  have HD : Hid (gdS s N = (decide (0 ≤ s) && (decide (s < 1125899906842624) && decide ((N : Int) ≤ 65536)))) := hide rfl
  clear h
  by_cases h1 : s < 0
  · have HV : Hid (rgS s N f = false) := hide (by rw [HG.out, HD.out]; simp; omega)
    clear HG HD HR
    go_enter Try.func14, Try.ntmps14
    go_wp2
    go_ret
    exact ⟨bret23 HV.out.symm, rfl⟩
  · by_cases h2 : 1125899906842624 ≤ s
    · have HV : Hid (rgS s N f = false) := hide (by rw [HG.out, HD.out]; simp; omega)
      clear HG HD HR
      go_enter Try.func14, Try.ntmps14
      go_wp2
      go_ret
      exact ⟨bret23 HV.out.symm, rfl⟩
    · by_cases h3 : (65536 : Int) < (N : Int)
      · have HV : Hid (rgS s N f = false) := hide (by rw [HG.out, HD.out]; simp; omega)
        clear HG HD HR
        go_enter Try.func14, Try.ntmps14
        go_wp2
        go_ret
        exact ⟨bret23 HV.out.symm, rfl⟩
      · have HV : Hid (rgS s N f = rmS f N) := hide (by rw [HG.out, HD.out, show (decide (0 ≤ s) && (decide (s < 1125899906842624) && decide ((N : Int) ≤ 65536))) = true by simp; omega]; rfl)
        clear HG HD
        go_enter Try.func14, Try.ntmps14
        go_wp2
        go_loop [5] (fun i => ∃ k : Nat, k ≤ N ∧ i = .int .i64 (k : Int) ∧ Hid (rmS f k = true)) (fun i => N - (intOf i).toNat)
        case atStart => exact ⟨0, Nat.zero_le _, by go_num, hide rfl⟩
        case round =>
          obtain ⟨k, hk, rfl, HP⟩ := hrel
          by_cases hkl : k < N
          · have hi : (k : Int) < (N : Int) := by omega
            have hn2 : ¬ (k : Int) < 0 := by omega
            obtain ⟨b, off, rfl, hc⟩ := (H.out).at hkl
            have HS : Hid (rmS f (k + 1) = (rmS f k && (decide (0 ≤ f k) && decide (f k ≤ 1125899906842624)))) := hide rfl
            have HRK := hide ((HR.out) k hkl)
            generalize f k = x at *
            clear HR
            by_cases h0 : x < 0
            · have HW : Hid (rmS f N = false) := hide ((HRK.out) (by simp; omega))
              clear HRK HS
              go_wp2
              go_ret
              exact ⟨bret23 (by rw [HV.out, HW.out]), rfl⟩
            · by_cases h4 : 1125899906842624 < x
              · have HW : Hid (rmS f N = false) := hide ((HRK.out) (by simp; omega))
                clear HRK HS
                go_wp2
                go_ret
                exact ⟨bret23 (by rw [HV.out, HW.out]), rfl⟩
              · have HW : Hid (rmS f (k + 1) = true) := hide (by rw [HS.out, HP.out]; simp; omega)
                clear HRK HS HP
                go_wp2
                go_round
                case rel => exact ⟨k + 1, by omega, by go_num, HW⟩
                case measure => simp [intOf]; omega
          · have hi : ¬ (k : Int) < (N : Int) := by omega
            have HW : Hid (rmS f N = true) := hide (by rw [show N = k by omega]; exact HP.out)
            clear HR HP
            go_wp2
            go_ret
            exact ⟨bret23 (by rw [HV.out, HW.out]), rfl⟩

set_option maxRecDepth 100000 in
set_option maxHeartbeats 2000000 in
theorem open23_any (ao ag : Option Addr) (N cap cag : Nat) (f g : Nat → Int) (w : World) (h : ArI w ao N f) (hg : ArI w ag N g) (hN : N ≤ 1000000) : Calls Try.prog 25 #[.slice ao N cap, .slice ag N cag] w fun e w' => e = .returned (.int .i64 (opL f g N)) ∧ w' = w := by
  have H := hide h
  have HG := hide hg
  clear h hg
  go_enter Try.func25, Try.ntmps25
  go_wp2
  go_loop [5, 10] (fun c i => ∃ k : Nat, ∃ C : Int, k ≤ N ∧ i = .int .i64 (k : Int) ∧ c = .int .i64 C ∧ Hid (C = opL f g k) ∧ 0 ≤ C ∧ C ≤ (k : Int)) (fun _ i => N - (intOf i).toNat)
  case atStart => exact ⟨0, 0, Nat.zero_le _, by go_num, by go_num, hide rfl, by omega, by omega⟩
  case round =>
    obtain ⟨k, C, hk, rfl, rfl, HC, hC0, hC1⟩ := hrel
    by_cases hkl : k < N
    · have hi : (k : Int) < (N : Int) := by omega
      have hn2 : ¬ (k : Int) < 0 := by omega
      obtain ⟨b, off, rfl, hc⟩ := (H.out).at hkl
      obtain ⟨b', off', rfl, hd⟩ := (HG.out).at hkl
      have HS : Hid (opL f g (k + 1) = C + if g k < f k then 1 else 0) := hide (by rw [HC.out]; rfl)
      generalize f k = x at *
      generalize g k = y at *
      by_cases hxy : y < x
      · have HV : Hid (C + 1 = opL f g (k + 1)) := hide (by rw [HS.out, if_pos hxy])
        clear HS HC
        go_wp2
        go_round
        case rel => exact ⟨k + 1, C + 1, by omega, by go_num, by go_num, HV, by omega, by omega⟩
        case measure => simp [intOf]; omega
      · have HV : Hid (C = opL f g (k + 1)) := hide (by rw [HS.out, if_neg hxy]; omega)
        clear HS HC
        go_wp2
        go_round
        case rel => exact ⟨k + 1, C, by omega, by go_num, by go_num, HV, by omega, by omega⟩
        case measure => simp [intOf]; omega
    · have hi : ¬ (k : Int) < (N : Int) := by omega
      have HV : Hid (C = opL f g N) := hide (by rw [show N = k by omega]; exact HC.out)
      clear HC
      go_wp2
      go_ret
      exact ⟨by rw [HV.out] <;> rfl, rfl⟩

/-- What all get together at a level, or one more than the space. -/
def tkS (f : Nat → Int) (s c : Int) (k : Nat) : Int := min (s + 1) (sm f c k)

theorem tkS_succ {f : Nat → Int} {s c : Int} {N k : Nat} (hc : 0 ≤ c) (hf : ∀ j, j < N → 0 ≤ f j) (hk : k < N) : min (s + 1) (tkS f s c k + min (f k) c) = tkS f s c (k + 1) := by
  have := hf k hk
  unfold tkS
  simp only [sm]
  omega

set_option maxRecDepth 100000 in
set_option maxHeartbeats 2000000 in
theorem taken23_any (s c : Int) (ao : Option Addr) (N cap : Nat) (f : Nat → Int) (w : World) (h : ArI w ao N f) (hN : N ≤ 1000000) (hs : 0 ≤ s) (hs1 : s < 1125899906842624) (hc0 : 0 ≤ c) (hc1 : c ≤ 1125899906842625) (hf : ∀ k, k < N → 0 ≤ f k) : Calls Try.prog 16 #[.int .i64 s, .slice ao N cap, .int .i64 c] w fun e w' => e = .returned (.int .i64 (tkS f s c N)) ∧ w' = w := by
  have H := hide h
  have HST : Hid (∀ k, k < N → min (s + 1) (tkS f s c k + min (f k) c) = tkS f s c (k + 1)) := hide (fun k hk => tkS_succ hc0 hf hk)
  have HB : Hid (∀ k, k ≤ N → 0 ≤ sm f c k) := hide (fun k hk => sm_nonneg hc0 k (fun j hj => hf j (by omega)))
  have HF := hide hf
  have HZ : Hid (0 = tkS f s c 0) := hide (by unfold tkS; simp only [sm]; omega)
  clear h hf
  go_enter Try.func16, Try.ntmps16
  go_wp2
  go_loop [7, 8] (fun a i => ∃ k : Nat, ∃ C : Int, k ≤ N ∧ i = .int .i64 (k : Int) ∧ a = .int .i64 C ∧ Hid (C = tkS f s c k) ∧ 0 ≤ C ∧ C ≤ s + 1) (fun _ i => N - (intOf i).toNat)
  case atStart => exact ⟨0, 0, Nat.zero_le _, by go_num, by go_num, HZ, by omega, by omega⟩
  case round =>
    obtain ⟨k, C, hk, rfl, rfl, HC, hC0, hC1⟩ := hrel
    by_cases hkl : k < N
    · have hi : (k : Int) < (N : Int) := by omega
      have hn2 : ¬ (k : Int) < 0 := by omega
      obtain ⟨b, off, rfl, hc⟩ := (H.out).at hkl
      have hx0 := (HF.out) k hkl
      have HV : Hid (min (s + 1) (C + min (f k) c) = tkS f s c (k + 1)) := hide (by rw [HC.out]; exact (HST.out) k hkl)
      generalize f k = x at *
      clear HC
      go_wp2
      go_round
      case rel => exact ⟨k + 1, _, by omega, by go_num, by go_num, HV, by omega, by omega⟩
      case measure => simp [intOf]; omega
    · have hi : ¬ (k : Int) < (N : Int) := by omega
      have HV : Hid (C = tkS f s c N) := hide (by rw [show N = k by omega]; exact HC.out)
      clear HC
      go_wp2
      go_ret
      exact ⟨by rw [HV.out] <;> rfl, rfl⟩

end Go.Proofs.Yteepknanofjnmaa
