/- Rectangles of tracks: cells that are sorted by their columns. -/
import Derived.Test.YtpfdpkfbdenapaaOcc5
namespace Go.Proofs.Ytpfdpkfbdenapaa
open Go.RowKit

/-- The cells of cells one behind the other. -/
def csC : List ClD → List Value
  | [] => []
  | x :: r => encC x ++ csC r

theorem csC_snoc (a : List ClD) (x : ClD) : csC (a ++ [x]) = csC a ++ encC x := by
  induction a with
  | nil => simp [csC]
  | cons y r ih => simp [csC, ih]

theorem csC_length (a : List ClD) : (csC a).length = a.length * 4 := by
  induction a with
  | nil => rfl
  | cons y r ih => simp [csC, ih, encC]; omega

theorem csC_get (a : List ClD) (i j : Nat) (hi : i < a.length) (hj : j < 4) : (csC a)[i * 4 + j]? = (encC (a.getD i noC))[j]? := by
  induction a generalizing i with
  | nil => simp at hi
  | cons y r ih =>
    cases i with
    | zero =>
      simp only [csC, Nat.zero_mul, Nat.zero_add]
      rw [List.getElem?_append_left (by simp [encC]; omega)]
      rfl
    | succ i =>
      simp only [csC]
      rw [List.getElem?_append_right (by simp [encC]; omega)]
      have e : (i + 1) * 4 + j - (encC y).length = i * 4 + j := by simp [encC]; omega
      rw [e, ih i (by simpa using hi)]
      simp

/-- The cells that a slice owns can be read. -/
theorem own_CsI {w : World} {base : Nat} {u : Value} {acc : List ClD} (h : w.ownsRow base 24 4 u acc.length (csC acc)) : CsI w u acc := by
  rcases h.2 with ⟨hv, h0⟩ | ⟨g, cap, cur, hv, hg, hh, hcap, _, hsz, htk⟩
  · exact .inl ⟨List.eq_nil_of_length_eq_zero h0, _, _, hv⟩
  · refine .inr ⟨g, 0, cap, hv, (Array.getElem?_eq_some_iff.1 hh).1, fun i hi j x hx => ?_⟩
    have hj : j < 4 := by
      have := (List.getElem?_eq_some_iff.1 hx).1
      simpa [encC] using this
    rw [← csC_get acc i j hi hj, ← htk, List.getElem?_take, if_pos (by omega)] at hx
    rw [Nat.zero_add, Lib.cell_of_heap hh]
    simpa using hx

theorem own_belowC {w w' : World} {base e size n : Nat} {v : Value} {xs : List Value} (h : w.ownsRow base e size v n xs) (ho : Below w.heap.size w w') : w'.ownsRow base e size v n xs := by
  refine ⟨h.1, ?_⟩
  rcases h.2 with h2 | ⟨g, cap, cur, hv, hg, hh, rest⟩
  · exact .inl h2
  · exact .inr ⟨g, cap, cur, hv, hg, (ho.block g (Array.getElem?_eq_some_iff.1 hh).1).trans hh, rest⟩

theorem own_sliceC {w : World} {base e size n : Nat} {v : Value} {xs : List Value} (h : w.ownsRow base e size v n xs) : ∃ ao cap, v = .slice ao n cap := by
  rcases h.2 with ⟨hv, hn⟩ | ⟨g, cap, cur, hv, _⟩
  · exact ⟨none, 0, by rw [hv, hn]⟩
  · exact ⟨_, _, hv⟩

theorem below_sortedC {w : World} {base g n off : Nat} {os : Array Obj} (d : Array Value) (hg : base ≤ g) (hb : base ≤ w.heap.size) : Below base w (Go.Sort.grow (Go.Sort.putRow id (Go.Sort.ahead w n) g off d) os) := by
  refine ⟨rfl, rfl, rfl, by simp [Go.Sort.grow], fun k hk => ?_⟩
  rw [Go.Sort.heap_grow_old _ _ (by simp [Go.Sort.ahead]; omega)]
  have : g ≠ k := by omega
  simp [Go.Sort.putRow, Go.Sort.mapBlock, Go.Sort.ahead, Array.getElem?_modify, this]

set_option maxRecDepth 100000 in
set_option maxHeartbeats 4000000 in
theorem sortC_any (acc : List ClD) (u : Value) (base : Nat) (w : World) (h : w.ownsRow base 24 4 u acc.length (csC acc)) (hb : base ≤ w.heap.size) (hl : acc.length < 4611686018427387904) :
    Calls Try.prog 59 #[u, .func (.func 60) #[] #[]] w fun e w' => e = .returned (.tuple #[]) ∧ ∃ ds : List ClD, ds.Perm acc ∧ ds.Pairwise (fun x y => x.c ≤ y.c) ∧ CsI w' u ds ∧ Below base w w' := by
  letI : Inhabited ClD := ⟨noC⟩
  by_cases h0 : acc.length = 0
  · obtain rfl := List.eq_nil_of_length_eq_zero h0
    obtain ⟨ao, cap, rfl⟩ := own_sliceC h
    exact (AnyF.slices_SortFunc_none Try.sortC ao cap _ w).mono fun e w' hh => ⟨hh.1, [], .nil, .nil, .inl ⟨rfl, _, _, rfl⟩, by rw [hh.2]; exact Below.refl _ _⟩
  · have hci := own_CsI h
    rcases h.2 with ⟨_, hz⟩ | ⟨g, cap, cur, hv, hg, hh, hcap, _, hsz, htk⟩
    · exact absurd hz h0
    · have hgl : g < w.heap.size := (Array.getElem?_eq_some_iff.1 hh).1
      have hH : Go.Sort.HoldsK encC 4 w g 0 acc.toArray := by
        intro t ht
        rw [Go.Sort.size_flatK] at ht
        have ht' : t < acc.length * 4 := by simpa using ht
        refine ⟨?_, Lib.frozen_of_heap hh _⟩
        rw [Go.Sort.get_flatK _ _ _ _ ht, Lib.cell_of_heap hh]
        have e1 : acc.toArray[t / 4]! = acc.getD (t / 4) noC := by
          have : t / 4 < acc.length := by omega
          rw [getElem!_pos _ _ (by simpa using this)]
          simp [this]
        rw [e1]
        have e2 := csC_get acc (t / 4) (t % 4) (by omega) (by omega)
        rw [show t / 4 * 4 + t % 4 = t by omega] at e2
        have e3 : cur[0 + t]? = (csC acc)[t]? := by
          rw [← htk, List.getElem?_take, if_pos (by omega), Nat.zero_add]
          simp
        rw [e3, e2, id]
        have : t % 4 < (encC (acc.getD (t / 4) noC)).length := by simp [encC]; omega
        rw [List.getElem?_eq_getElem this, getElem!_pos (encC (acc.getD (t / 4) noC)) (t % 4) this]
      have eg : ∀ args w, (callFunc 60 args).run Try.prog w = .ok (.enter 60 args) w := enters_of Try.func60 (by kernel_rfl) rfl
      have hcmp : CmpLays Try.prog 60 #[] encC 4 cfC g 0 acc.toArray.size w := fun m os dk _ x y => cmpC_any x y _
      have hcon := AnyQ.slices_SortFunc Try.sortC 4 Try.isAgg24 Try.sizeOf24 encC (fun _ => rfl) (fun x v hv => by simp [encC] at hv; rcases hv with rfl | rfl | rfl | rfl <;> rfl) cfC swoC 60 #[] g 0 cap acc.toArray w eg hcmp hH hgl (by simpa using hl)
      rw [List.size_toArray] at hcon
      rw [hv]
      refine Calls.mono hcon ?_
      rintro e w' ⟨he, d', n, os, hp, hs, rfl⟩
      obtain ⟨hp1, _, hp3⟩ := hp
      have hsz' : d'.size = acc.length := by simpa using hp1
      refine ⟨he, d'.toList, ?_, ?_, ?_, below_sortedC _ hg hb⟩
      · have e1 : (d'.extract 0 acc.length).toList = d'.toList := by simp [← hsz']
        have e2 : (acc.toArray.extract 0 acc.length).toList = acc := by simp
        rw [e1, e2] at hp3
        exact hp3
      · rw [List.pairwise_iff_getElem]
        intro i j hi hj hij
        have hi' : i < d'.size := by simpa using hi
        have hj' : j < d'.size := by simpa using hj
        have := hs i j (Nat.zero_le _) hij (by omega)
        rw [ltC, getElem!_pos d' i hi', getElem!_pos d' j hj'] at this
        simp at this
        simpa using this
      · have hHd := holdsK_sortWorldK_c encC 4 w g 0 acc.toArray d' n os hH hgl (by simp [hsz'])
        refine .inr ⟨g, 0, cap, by simp [hsz'], Nat.lt_of_lt_of_le hgl (size_sortWorldK_c encC 4 w g 0 n d' os), fun i hi j x hx => ?_⟩
        have hi' : i < d'.size := by simpa using hi
        have hj : j < 4 := by
          have := (List.getElem?_eq_some_iff.1 hx).1
          simpa [encC] using this
        have hc := (hHd.cell hi' hj).1
        rw [hc]
        have e : d'[i]! = d'.toList.getD i noC := by
          rw [getElem!_pos d' i hi']
          simp [hi']
        rw [e]
        have : j < (encC (d'.toList.getD i noC)).length := by simp [encC]; omega
        rw [getElem!_pos (encC (d'.toList.getD i noC)) j this]
        rw [List.getElem?_eq_getElem this] at hx
        exact hx

end Go.Proofs.Ytpfdpkfbdenapaa
