/- The parts of an identifier; what parts mean, walked. -/
import Derived.Test.YtcgmnmfglhbcgabTok6
namespace Go.Proofs.Ytcgmnmfglhbcgab
open Go.RowKit

theorem bdN {B : Nat} {a w : World} (h : Below B a w) (n : Nat) : Below B a (w.drewN n) := ⟨h.os, h.tape, h.output, h.size, h.block⟩
theorem ext_bt {s : ByteArray} {k : Nat} (h : k < s.size) : s.extract k (k + 1) = ⟨#[btT s k]⟩ := by
  apply WideShapes.bytes_inj
  have h' : k < s.data.toList.length := by simpa using h
  simp only [ByteArray.data_extract, Array.toList_extract, List.extract, Nat.add_sub_cancel_left]
  rw [List.drop_eq_getElem_cons h', btT_at h]
  simp
  rfl
theorem sl_mid {s : ByteArray} {k : Nat} (h : k < s.size) (w : World) : Sem.run Try.prog (Instr.slice 9 (.string s) (some (.int .i64 (k : Int))) (some (.int .i64 ((k : Int) + 1))) none) w = .ok (.string ⟨#[btT s k]⟩) w := by
  rw [run_slice_string w 9 s .i64 .i64 (k : Int) ((k : Int) + 1) Try.underlying9 (by omega) (by omega) (by omega), ← ext_bt h]
  congr 2

set_option maxRecDepth 100000 in
set_option maxHeartbeats 4000000 in
theorem idc_any (R bx : Nat) (s : ByteArray) (k f : Nat) (w : World) (h : RdAt R s k f w) (hb : w.cell? ⟨bx, 0, none⟩ = some (.pointer (some ⟨R, 0, none⟩))) (hk : k ≤ s.size) (hs : s.size ≤ 300000) :
    Calls Try.prog 64 #[.pointer (some ⟨bx, 0, none⟩)] w fun e w' => e = .returned (.tuple #[.string (idP s k).1, .int .i64 ((idP s k).2 : Int)]) ∧ Below w.heap.size w w' := by
  have c0 := h.c0
  have c1 := h.c1
  have ch := fun w => hex_any s k w (by omega)
  clear h
  by_cases hx : (hexV s k).2 = 0
  · by_cases hlt : k < s.size
    · have hi : (k : Int) < (s.size : Int) := by omega
      have ct := fun w => tin_any s[k] w
      have hsl := fun w => sl_mid hlt w
      cases hin : inT s[k]
      · have hv : idP s k = hexV s k := by unfold idP; rw [if_neg (by rw [btT_at hlt, hin]; simp)]
        rw [hv]
        rw [hin] at ct
        generalize hexV s k = X at *
        obtain ⟨x1, x2⟩ := X
        simp only at hx
        subst hx
        clear hv hin
        go_enter Try.func64, Try.ntmps64
        go_wp2_with fail
        go_quiet ((go_at_call 11; exact (ch _).mono fun _ _ h => ⟨h.1, _, h.2⟩))
        go_wp2_with fail
        go_quiet ((go_at_call 65; exact (ct _).mono fun _ _ h => ⟨h.1, _, h.2⟩))
        go_wp2_with fail
        go_ret2
        exact ⟨rfl, bdN (bdN (Below.refl _ _) _) _⟩
      · have hv : idP s k = (⟨#[btT s k]⟩, 1) := by unfold idP; rw [if_pos ⟨hx, hlt, by rw [btT_at hlt]; exact hin⟩]
        rw [hv]
        rw [hin] at ct
        generalize hexV s k = X at *
        obtain ⟨x1, x2⟩ := X
        simp only at hx
        subst hx
        clear hv hin
        go_enter Try.func64, Try.ntmps64
        go_wp2_with fail
        go_quiet ((go_at_call 11; exact (ch _).mono fun _ _ h => ⟨h.1, _, h.2⟩))
        go_wp2_with fail
        go_quiet ((go_at_call 65; exact (ct _).mono fun _ _ h => ⟨h.1, _, h.2⟩))
        go_wp2_with fail
        go_quiet (fail)
        go_wp2_with fail
        go_ret2
        exact ⟨rfl, bdN (bdN (bdN (Below.refl _ _) _) _) _⟩
    · have hv : idP s k = hexV s k := by unfold idP; rw [if_neg (fun h => hlt h.2.1)]
      have hd : decide ((k : Int) < (s.size : Int)) = false := decide_eq_false (by omega)
      rw [hv]
      generalize hexV s k = X at *
      obtain ⟨x1, x2⟩ := X
      simp only at hx
      subst hx
      clear hv
      go_enter Try.func64, Try.ntmps64
      go_wp2_with fail
      go_quiet ((go_at_call 11; exact (ch _).mono fun _ _ h => ⟨h.1, _, h.2⟩))
      go_wp2_with fail
      go_quiet (fail)
      go_wp2_with fail
      go_ret2
      exact ⟨rfl, bdN (bdN (Below.refl _ _) _) _⟩
  · have hv : idP s k = hexV s k := by unfold idP; rw [if_neg (fun h => hx h.1)]
    rw [hv]
    generalize hexV s k = X at *
    obtain ⟨x1, x2⟩ := X
    have hd : (((x2 : Nat) : Int) == 0) = false := by rw [beq_eq_false_iff_ne]; simp only at hx; omega
    clear hv hx
    go_enter Try.func64, Try.ntmps64
    go_wp2_with fail
    go_quiet ((go_at_call 11; exact (ch _).mono fun _ _ h => ⟨h.1, _, h.2⟩))
    go_wp2_with fail
    go_quiet (fail)
    go_wp2_with fail
    go_ret2
    exact ⟨rfl, bdN (bdN (Below.refl _ _) _) _⟩

end Go.Proofs.Ytcgmnmfglhbcgab
