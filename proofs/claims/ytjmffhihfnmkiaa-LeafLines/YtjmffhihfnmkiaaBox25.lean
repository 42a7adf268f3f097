/- Content in memory; whether it may be, the developers' way. -/
import Derived.Test.YtjmffhihfnmkiaaCn0
namespace Go.Proofs.Ytjmffhihfnmkiaa
open Go.RowKit

/-- Boxes in memory. -/
structure BxsI (w : World) (u : Value) (xs : List LenD) : Prop where
  val : (xs = [] ∧ ∃ ao cap, u = .slice ao 0 cap) ∨ ∃ b off cap, u = .slice (some ⟨b, off, none⟩) xs.length cap ∧ b < w.heap.size ∧ ∀ i, i < xs.length → w.cell? ⟨b, off + i * 2, none⟩ = some (.int .i64 (xs.getD i noLen).1) ∧ w.cell? ⟨b, off + i * 2 + 1, none⟩ = some (.int .i64 (xs.getD i noLen).2)

/-- Content in memory. -/
structure WdsI (w : World) (v : Value) (ws : List (List LenD)) : Prop where
  val : (ws = [] ∧ ∃ ao cap, v = .slice ao 0 cap) ∨ ∃ b off cap, v = .slice (some ⟨b, off, none⟩) ws.length cap ∧ b < w.heap.size ∧ ∀ i, i < ws.length → ∃ u, w.cell? ⟨b, off + i, none⟩ = some u ∧ BxsI w u (ws.getD i [])

theorem BxsI.below {w w' : World} {u : Value} {xs : List LenD} (h : BxsI w u xs) (hb : Below w.heap.size w w') : BxsI w' u xs := by
  rcases h.val with h1 | ⟨b, off, cap, h1, h2, h3⟩
  · exact ⟨.inl h1⟩
  · exact ⟨.inr ⟨b, off, cap, h1, Nat.lt_of_lt_of_le h2 hb.size, fun i hi => ⟨(hb.cell (p := ⟨b, off + i * 2, none⟩) h2).trans (h3 i hi).1, (hb.cell (p := ⟨b, off + i * 2 + 1, none⟩) h2).trans (h3 i hi).2⟩⟩⟩

theorem WdsI.below {w w' : World} {u : Value} {ws : List (List LenD)} (h : WdsI w u ws) (hb : Below w.heap.size w w') : WdsI w' u ws := by
  rcases h.val with h1 | ⟨b, off, cap, h1, h2, h3⟩
  · exact ⟨.inl h1⟩
  · exact ⟨.inr ⟨b, off, cap, h1, Nat.lt_of_lt_of_le h2 hb.size, fun i hi => by obtain ⟨u, g1, g2⟩ := h3 i hi; exact ⟨u, (hb.cell (p := ⟨b, off + i, none⟩) h2).trans g1, g2.below hb⟩⟩⟩

theorem BxsI.slice {w : World} {u : Value} {xs : List LenD} (h : BxsI w u xs) : ∃ ao cap, u = .slice ao xs.length cap := by
  rcases h.val with ⟨h0, ao, cap, h1⟩ | ⟨b, off, cap, h1, _⟩
  · exact ⟨ao, cap, by rw [h0]; exact h1⟩
  · exact ⟨_, _, h1⟩

theorem WdsI.slice {w : World} {u : Value} {ws : List (List LenD)} (h : WdsI w u ws) : ∃ ao cap, u = .slice ao ws.length cap := by
  rcases h.val with ⟨h0, ao, cap, h1⟩ | ⟨b, off, cap, h1, _⟩
  · exact ⟨ao, cap, by rw [h0]; exact h1⟩
  · exact ⟨_, _, h1⟩

/-- One row of content, by its place. -/
theorem WdsI.row {w : World} {ao : Option Addr} {n cap : Nat} {ws : List (List LenD)} (h : WdsI w (.slice ao n cap) ws) (i : Nat) (hi : i < ws.length) : ∃ b off u, ao = some ⟨b, off, none⟩ ∧ b < w.heap.size ∧ w.cell? ⟨b, off + i, none⟩ = some u ∧ BxsI w u (ws.getD i []) := by
  rcases h.val with ⟨h0, _⟩ | ⟨b, off, cap', h1, h2, h3⟩
  · rw [h0] at hi; simp at hi
  · simp only [Value.slice.injEq] at h1
    obtain ⟨u, g1, g2⟩ := h3 i hi
    exact ⟨b, off, u, h1.1, h2, g1, g2⟩

/-- One box, by its place. -/
theorem BxsI.box {w : World} {ao : Option Addr} {n cap : Nat} {xs : List LenD} (h : BxsI w (.slice ao n cap) xs) (i : Nat) (hi : i < xs.length) : ∃ b off, ao = some ⟨b, off, none⟩ ∧ b < w.heap.size ∧ w.cell? ⟨b, off + i * 2, none⟩ = some (.int .i64 (xs.getD i noLen).1) ∧ w.cell? ⟨b, off + i * 2 + 1, none⟩ = some (.int .i64 (xs.getD i noLen).2) := by
  rcases h.val with ⟨h0, _⟩ | ⟨b, off, cap', h1, h2, h3⟩
  · rw [h0] at hi; simp at hi
  · simp only [Value.slice.injEq] at h1
    exact ⟨b, off, h1.1, h2, (h3 i hi).1, (h3 i hi).2⟩

/-- Is content not more than is looked at? -/
def lightA : Nat → List (List LenD) → Bool
  | _, [] => true
  | n, l :: r => if 600 < n + 1 + min l.length 1000 then false else lightA (n + 1 + min l.length 1000) r

/-- A box that may not be. -/
def wrongX (x : LenD) : Bool := decide (min x.1 x.2 < 0 ∨ 68719476736 < max x.1 x.2)

/-- May content be, behind so many boxes? -/
def goodW : Nat → List (List LenD) → Bool
  | _, [] => true
  | c, l :: r => if l.length = 0 ∨ 256 < c + l.length ∨ l.any wrongX = true then false else goodW (c + l.length) r

theorem lightA_small : ∀ (ws : List (List LenD)) (n : Nat), lightA n ws = true → ws = [] ∨ n + ws.length ≤ 600 ∧ ∀ l ∈ ws, l.length ≤ 600
  | [], _, _ => .inl rfl
  | l :: r, n, h => by
    right
    unfold lightA at h
    split at h
    · cases h
    · rename_i h1
      rcases lightA_small r _ h with rfl | ⟨h2, h3⟩
      · refine ⟨by simp; omega, fun x hx => ?_⟩
        simp at hx
        subst hx
        omega
      · refine ⟨by simp; omega, fun x hx => ?_⟩
        simp at hx
        rcases hx with rfl | hx
        · omega
        · exact h3 x hx

theorem light_small {ws : List (List LenD)} (h : lightA 0 ws = true) : ws.length ≤ 600 ∧ ∀ l ∈ ws, l.length ≤ 600 := by
  rcases lightA_small ws 0 h with rfl | ⟨h1, h2⟩
  · exact ⟨by simp, fun _ hx => by simp at hx⟩
  · exact ⟨by omega, h2⟩

theorem dropL_cons {α : Type} (ws : List α) (d : α) (i : Nat) (h : i < ws.length) : ws.drop i = ws.getD i d :: ws.drop (i + 1) := by
  rw [List.drop_eq_getElem_cons h, List.getD, List.getElem?_eq_getElem h]
  rfl

set_option maxRecDepth 100000 in
set_option maxHeartbeats 4000000 in
theorem light9_any (v : Value) (ws : List (List LenD)) (w : World) (h : WdsI w v ws) (hl : ws.length ≤ maxLen) (hr : ∀ l ∈ ws, l.length ≤ maxLen) :
    Calls Try.prog 6 #[v] w fun e w' => e = .returned (.bool (lightA 0 ws)) ∧ w' = w := by
  obtain ⟨ao, cap, rfl⟩ := h.slice
  have hrow := fun i hi => h.row i hi
  have hd := fun i hi => dropL_cons ws [] i hi
  have hlr : ∀ i, i < ws.length → (ws.getD i []).length ≤ maxLen := fun i hi => by
    rw [List.getD, List.getElem?_eq_getElem hi]
    exact hr _ (List.getElem_mem hi)
  have h0 : lightA 0 ws = lightA 0 (ws.drop 0) := rfl
  have he : ws.drop ws.length = [] := List.drop_length
  rw [h0]
  obtain ⟨R, hR⟩ : ∃ R, R = lightA 0 (ws.drop 0) := ⟨_, rfl⟩
  rw [← hR]
  have HROW := hide hrow
  have HD := hide hd
  have HLR := hide hlr
  have HE := hide he
  have HR := hide hR
  obtain ⟨N, hN⟩ : ∃ N, N = ws.length := ⟨_, rfl⟩
  rw [← hN] at HROW HD HLR HE hl ⊢
  clear hrow hd hlr h0 he hR h hr hN
  unfold maxLen at hl HLR
  go_enter Try.func6, Try.ntmps6
  go_wp2_with fail
  go_loopw [8, 3] (fun a u wx => ∃ i n : Nat, i ≤ N ∧ n ≤ 600 ∧ a = .int .i64 (i : Int) ∧ u = .int .i64 (n : Int) ∧ Hid (R = lightA n (ws.drop i)) ∧ wx = w) (fun a _ _ => (N - intOf a).toNat)
  case atStart => exact ⟨0, 0, by omega, by omega, by go_num, by go_num, HR, rfl⟩
  case round =>
    clear HR
    obtain ⟨i, n, hi, hn, rfl, rfl, HQ, rfl⟩ := hrel
    by_cases hiN : i < N
    · have hib : (i : Int) < (N : Int) := by omega
      obtain ⟨b, off, u, rfl, hb, hc, hbx⟩ := (HROW.out) i hiN
      obtain ⟨ua, uc, rfl⟩ := hbx.slice
      have hd := (HD.out) i hiN
      have hm := (HLR.out) i hiN
      have HQ2 := HQ.out
      rw [hd] at HQ2
      unfold lightA at HQ2
      generalize (ws.getD i []).length = M at *
      clear hbx hd HQ
      by_cases hM : M ≤ 1000
      · have hmin : min (M : Int) 1000 = (M : Int) := by omega
        rw [Nat.min_eq_left hM] at HQ2
        by_cases hbig : 600 < n + 1 + M
        · have hbi : (600 : Int) < (n : Int) + (1 + (M : Int)) := by omega
          rw [if_pos hbig] at HQ2
          have HV := hide HQ2
          clear HQ2
          go_wp2_with fail
          go_ret
          exact ⟨by rw [HV.out] <;> rfl, rfl⟩
        · have hbi : ¬ (600 : Int) < (n : Int) + (1 + (M : Int)) := by omega
          rw [if_neg hbig] at HQ2
          have HV := hide HQ2
          clear HQ2
          go_wp2_with fail
          go_roundw
          case rel => exact ⟨i + 1, n + 1 + M, by omega, by omega, by go_num, by go_num, HV, by first | rfl | trivial⟩
          case measure => simp [intOf]; omega
      · have hmin : min (M : Int) 1000 = 1000 := by omega
        rw [Nat.min_eq_right (by omega), if_pos (by omega)] at HQ2
        have hbi : (600 : Int) < (n : Int) + (1 + 1000) := by omega
        have HV := hide HQ2
        clear HQ2
        go_wp2_with fail
        go_ret
        exact ⟨by rw [HV.out] <;> rfl, rfl⟩
    · have hib : ¬ (i : Int) < (N : Int) := by omega
      have hiN2 : i = N := by omega
      have HV : Hid (R = true) := hide (by rw [HQ.out, hiN2, HE.out]; rfl)
      clear HQ
      go_wp2_with fail
      go_ret
      exact ⟨by rw [HV.out] <;> rfl, rfl⟩

end Go.Proofs.Ytjmffhihfnmkiaa
