/- TokenEscapes walked. -/
import Derived.Test.YtcgmnmfglhbcgabEsc4
namespace Go.Proofs.Ytcgmnmfglhbcgab
open Go.RowKit

theorem r3hexA_any (s : ByteArray) (k : Nat) (w : World) (hs : s.size ≤ 300000) : Calls Try.prog 12 #[.string s, .int .i64 (k : Int)] w fun e w' => e = .returned (.tuple #[.string (hexV s k).1, .int .i64 ((hexV s k).2 : Int)]) ∧ Below w.heap.size w w' := by
  have same : ∀ {R : ByteArray × Nat}, hexV s k = (⟨#[]⟩, 0) → Calls Try.prog 12 #[.string s, .int .i64 (k : Int)] w (fun e w' => e = .returned (.tuple #[.string ⟨#[]⟩, .int .i64 0]) ∧ w' = w) → Calls Try.prog 12 #[.string s, .int .i64 (k : Int)] w fun e w' => e = .returned (.tuple #[.string (hexV s k).1, .int .i64 ((hexV s k).2 : Int)]) ∧ Below w.heap.size w w' := fun {_} hv hc => by
    rw [hv]
    exact hc.mono fun e w' h => ⟨h.1, by rw [h.2]; exact Below.refl _ _⟩
  by_cases h1 : k + 1 < s.size
  · by_cases hb : btT s k = 92
    · cases hl : leT (btT s (k + 1))
      · exact r3hex_dig s k w hs h1 hb hl
      · exact same (R := hexV s k) (hex_line (by omega) hb h1 hl) (r3hex_line s k w hs h1 hb hl)
    · exact same (R := hexV s k) (hex_none fun h => hb h.2) (r3hex_other s k w hs h1 hb)
  · refine same (R := hexV s k) ?_ (r3hex_none s (k : Int) w hs (.inr (by omega)))
    by_cases h2 : k < s.size ∧ btT s k = 92
    · exact hex_end h2.1 h2.2 (by omega)
    · exact hex_none h2

set_option maxRecDepth 100000 in
set_option maxHeartbeats 4000000 in
theorem tokenEscapes_walk (s : ByteArray) (at_ : Int) (ci : Int) (w : World) (_ : s.size ≤ maxLen) (_ : (Lit.int .i64 at_).wf = true) (wc : (Lit.int .u8 ci).wf = true) (hm : MaxAt w) :
    Calls Try.prog 4 #[.string s, .int .i64 at_, .int .u8 ci] w fun e w' => e = .returned (.bool true) ∧ Below w.heap.size w w' := by
  obtain ⟨c, rfl⟩ : ∃ c : UInt8, ci = (c.toNat : Int) := by
    have hb := bounds_u8 wc
    exact ⟨UInt8.ofNat ci.toNat, by rw [UInt8.toNat_ofNat']; omega⟩
  clear wc
  by_cases hl : 3000 < s.size
  · have h1 : (3000 : Int) < (s.size : Int) := by omega
    go_enter Try.func4, Try.ntmps4
    go_wp2_with fail
    refine (lives3_any _ hm).mono ?_
    rintro e w1 ⟨rfl, hb⟩
    go_wp2_with fail
    go_ret
    exact ⟨rfl, hb⟩
  · have h1 : ¬ (3000 : Int) < (s.size : Int) := by omega
    have cl1 := tletter_any c
    have cl2 := r3letter_any c
    obtain ⟨X, N, cx, cy⟩ : ∃ (X : ByteArray) (N : Nat), (∀ w, Calls Try.prog 11 #[.string s, .int .i64 at_] w fun e w' => e = .returned (.tuple #[.string X, .int .i64 (N : Int)]) ∧ w' = w) ∧ (∀ w, Calls Try.prog 12 #[.string s, .int .i64 at_] w fun e w' => e = .returned (.tuple #[.string X, .int .i64 (N : Int)]) ∧ Below w.heap.size w w') := by
      rcases Int.lt_or_le at_ 0 with h | h
      · exact ⟨⟨#[]⟩, 0, fun w => hex_out s at_ w (.inl h), fun w => (r3hex_none s at_ w (by omega) (.inl h)).mono fun e w' h => ⟨h.1, by rw [h.2]; exact Below.refl _ _⟩⟩
      · obtain ⟨k, rfl⟩ : ∃ k : Nat, at_ = (k : Int) := ⟨at_.toNat, by omega⟩
        exact ⟨(hexV s k).1, (hexV s k).2, fun w => hex_any s k w (by omega), fun w => r3hexA_any s k w (by omega)⟩
    generalize letT c = L at *
    have HM := hide hm
    clear hm hl
    go_enter Try.func4, Try.ntmps4
    go_wp2_with fail
    refine (cx _).mono ?_
    rintro e w1 ⟨rfl, hw⟩
    subst w1
    go_wp2_with fail
    refine (cy _).mono ?_
    rintro e w1 ⟨rfl, hb1⟩
    have hm1 := (HM.out).below hb1
    have HM1 := hide hm1
    have HB1 := hide hb1
    clear hm1 hb1 cx cy
    go_wp2_with fail
    refine (cl1 _).mono ?_
    rintro e w2 ⟨rfl, hw⟩
    subst w2
    go_wp2_with fail
    refine (cl2 _).mono ?_
    rintro e w2 ⟨rfl, hw⟩
    subst w2
    go_wp2_with fail
    refine (lives3_any _ HM1.out).mono ?_
    rintro e w3 ⟨rfl, hb3⟩
    have hB := (HB1.out).trans (hb3.mono (HB1.out).size)
    clear HB1 HM1 HM hb3
    go_wp2_with fail
    go_ret
    exact ⟨rfl, hB⟩

end Go.Proofs.Ytcgmnmfglhbcgab
