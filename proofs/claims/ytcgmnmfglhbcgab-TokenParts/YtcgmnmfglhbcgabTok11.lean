/- Strings, walked. -/
import Derived.Test.YtcgmnmfglhbcgabTok10
namespace Go.Proofs.Ytcgmnmfglhbcgab
open Go.RowKit

theorem esc_none {s : ByteArray} {k : Nat} (h : s.size ≤ k + 1) : escV s k = none := by unfold escV; rw [if_pos h]
theorem esc_cr {s : ByteArray} {k : Nat} (h : ¬ s.size ≤ k + 1) (hb : btT s (k + 1) = 13) : escV s k = some (⟨#[]⟩, if Lib.hasPrefix (s.extract (k + 1) s.size).data.toList [13, 10] then 3 else 2) := by
  unfold escV; rw [if_neg h, if_pos hb]
theorem esc_lf {s : ByteArray} {k : Nat} (h : ¬ s.size ≤ k + 1) (h0 : ¬ btT s (k + 1) = 13) (hb : btT s (k + 1) = 10 ∨ btT s (k + 1) = 12) : escV s k = some (⟨#[]⟩, 2) := by
  unfold escV; rw [if_neg h, if_neg h0, if_pos hb]
theorem esc_hex {s : ByteArray} {k : Nat} (h : ¬ s.size ≤ k + 1) (h0 : ¬ btT s (k + 1) = 13) (hb : ¬ (btT s (k + 1) = 10 ∨ btT s (k + 1) = 12)) : escV s k = some (hexV s k) := by
  unfold escV; rw [if_neg h, if_neg h0, if_neg hb]
theorem u8_of {c : UInt8} {n : Nat} (h : (c.toNat : Int) = (n : Int)) (hn : n < 256) : c = UInt8.ofNat n := UInt8.toNat_inj.1 (by rw [UInt8.toNat_ofNat']; omega)

set_option maxRecDepth 100000 in
set_option maxHeartbeats 4000000 in
theorem escape_any (R : Nat) (s : ByteArray) (k f : Nat) (w : World) (h : RdAt R s k f w) (hk : k < s.size) (hs : s.size ≤ 300000) :
    Calls Try.prog 56 #[.pointer (some ⟨R, 0, none⟩)] w fun en w' => PartR f (escV s k) en ∧ Below w.heap.size w w' := by
  have c0 := h.c0
  have c1 := h.c1
  have hsl := fun w => sl_from (s := s) (k := k + 1) (by omega) w
  have hk1 : ((k + 1 : Nat) : Int) = (k : Int) + 1 := by omega
  simp only [hk1] at hsl
  have hki : (k : Int) < (s.size : Int) := by omega
  have HR := hide h
  obtain ⟨E, hE⟩ : ∃ E, E = s.extract (k + 1) s.size := ⟨_, rfl⟩
  have hEs : E.size = s.size - (k + 1) := by rw [hE]; exact ext_size' s _
  simp only [← hE] at hsl
  by_cases hz : s.size ≤ k + 1
  · have hv := esc_none hz
    rw [hv]
    have he : E = (⟨#[]⟩ : ByteArray) := by
      apply WideShapes.bytes_inj
      have : E.data.toList.length = 0 := by rw [show E.data.toList.length = E.size by simp]; omega
      rw [List.length_eq_zero_iff.1 this]
    subst he
    clear hv h hE hEs hk1
    go_enter Try.func56, Try.ntmps56
    go_wp2_with fail
    go_quiet (fail)
    go_wp2_with fail
    refine (fail_any R s k f 30 _ ((HR.out).drewN _)).mono ?_
    rintro e w1 ⟨rfl, rfl⟩
    exact ⟨rfl, rfl, bdN (Below.refl _ _) _⟩
  · have hE1 : 0 < E.size := by omega
    have hb0 : btT s (k + 1) = E[0] := by rw [← btT_at hE1, hE]; exact (bt_ext (j := 0) (by omega)).symm
    have hem : E.toList.isEmpty = false := by
      rw [ByteArray.toList_eq, List.isEmpty_eq_false_iff]
      intro h
      have : E.data.toList.length = 0 := by rw [h]; rfl
      rw [show E.data.toList.length = E.size by simp] at this
      omega
    have hE1i : (0 : Int) < (E.size : Int) := by omega
    rcases eqT (E[0].toNat : Int) 13 with ⟨e1, e1b⟩ | ⟨e1, e1b⟩
    · have hv := esc_cr hz (by rw [hb0]; exact u8_of (n := 13) e1 (by omega))
      rw [← hE] at hv
      have cp : ∀ w, Calls Try.prog 37 #[.string E, .string ⟨#[13, 10]⟩] w fun e w' => e = .returned (.bool (Lib.hasPrefix E.data.toList [13, 10])) ∧ w' = w := fun w => Try.strings_HasPrefix _ _ w
      generalize Lib.hasPrefix E.data.toList [13, 10] = B at *
      rw [hv]
      clear hv h hE hEs hk1 hb0 hz
      cases B <;> (
        go_enter Try.func56, Try.ntmps56
        go_wp2_with fail
        go_quiet (fail)
        go_wp2_with fail
        refine (cp _).mono ?_
        rintro e w1 ⟨rfl, rfl⟩
        go_wp2_with fail
        go_ret2
        exact ⟨rfl, bdN (Below.refl _ _) _⟩)
    · have n13 : ¬ btT s (k + 1) = 13 := by rw [hb0]; intro h; rw [h] at e1; exact e1 rfl
      rcases eqT (E[0].toNat : Int) 10 with ⟨e2, e2b⟩ | ⟨e2, e2b⟩
      · have hv := esc_lf hz n13 (by rw [hb0]; exact .inl (u8_of (n := 10) e2 (by omega)))
        rw [hv]
        clear hv h hE hEs hk1 hb0 hz n13
        go_enter Try.func56, Try.ntmps56
        go_wp2_with fail
        go_quiet (fail)
        go_wp2_with fail
        go_ret2
        exact ⟨rfl, bdN (Below.refl _ _) _⟩
      · rcases eqT (E[0].toNat : Int) 12 with ⟨e3, e3b⟩ | ⟨e3, e3b⟩
        · have hv := esc_lf hz n13 (by rw [hb0]; exact .inr (u8_of (n := 12) e3 (by omega)))
          rw [hv]
          clear hv h hE hEs hk1 hb0 hz n13
          go_enter Try.func56, Try.ntmps56
          go_wp2_with fail
          go_quiet (fail)
          go_wp2_with fail
          go_ret2
          exact ⟨rfl, bdN (Below.refl _ _) _⟩
        · have hv := esc_hex hz n13 (by
            rw [hb0]; rintro (h | h)
            · rw [h] at e2; exact e2 rfl
            · rw [h] at e3; exact e3 rfl)
          rw [hv]
          have ch := fun w => hex_any s k w (by omega)
          generalize hexV s k = X at *
          obtain ⟨x1, x2⟩ := X
          clear hv h hE hEs hk1 hb0 hz n13
          go_enter Try.func56, Try.ntmps56
          go_wp2_with fail
          go_quiet (fail)
          go_wp2_with fail
          go_quiet ((go_at_call 11; exact (ch _).mono fun _ _ h => ⟨h.1, _, h.2⟩))
          go_wp2_with fail
          go_ret2
          exact ⟨rfl, bdN (bdN (Below.refl _ _) _) _⟩

end Go.Proofs.Ytcgmnmfglhbcgab
