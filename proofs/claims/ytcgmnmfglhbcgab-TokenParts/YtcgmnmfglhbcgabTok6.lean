/- The reader's fail, take, comment and next, walked. -/
import Derived.Test.YtcgmnmfglhbcgabTok5
import Derived.Deep.LoopGhost
import Derived.Deep.QuietTactic
import Derived.BigQuiet
import Derived.Deep.Cut
namespace Go.Proofs.Ytcgmnmfglhbcgab
open Go.RowKit

theorem Only.drewN {R : Nat} {a w : World} (h : Only R a w) (n : Nat) : Only R a (w.drewN n) := ⟨h.os, h.tape, h.output, h.size, h.block⟩
theorem RdAt.drewN {R : Nat} {s : ByteArray} {k f : Nat} {w : World} (h : RdAt R s k f w) (n : Nat) : RdAt R s k f (w.drewN n) := h

theorem RdAt.set1' {R : Nat} {s : ByteArray} {k f : Nat} {w : World} (h : RdAt R s k f w) (v : Int) (k' : Nat) (e : v = (k' : Int)) : RdAt R s k' f (w.setCell ⟨R, 1, none⟩ (.int .i64 v)) := by rw [e]; exact h.set1 k'

set_option maxRecDepth 100000 in
set_option maxHeartbeats 1000000 in
theorem fail_any (R : Nat) (s : ByteArray) (k f : Nat) (e : Int) (w : World) (h : RdAt R s k f w) :
    Calls Try.prog 45 #[.pointer (some ⟨R, 0, none⟩), .int .i64 e] w fun en w' => en = badV f e ∧ w' = w := by
  have c2 := h.c2
  go_enter Try.func45, Try.ntmps45
  go_wp2_with fail
  exact ⟨rfl, rfl, rfl⟩

set_option maxRecDepth 100000 in
set_option maxHeartbeats 2000000 in
theorem rtake_any (R : Nat) (s : ByteArray) (k f : Nat) (c : UInt8) (w : World) (h : RdAt R s k f w) (hk : k ≤ s.size) (hs : s.size ≤ 300000) :
    Calls Try.prog 52 #[.pointer (some ⟨R, 0, none⟩), .int .u8 (c.toNat : Int)] w fun en w' => en = .returned (.bool (isAt s k c)) ∧ RdAt R s (k + (isAt s k c).toNat) f w' ∧ Only R w w' := by
  have c0 := h.c0
  have c1 := h.c1
  have z1 := h.z 1
  by_cases hlt : k < s.size
  · have hi : (k : Int) < (s.size : Int) := by omega
    rcases eqT (s[k].toNat : Int) (c.toNat : Int) with ⟨h1, h1b⟩ | ⟨h1, h1b⟩
    · have ha : isAt s k c = true := decide_eq_true ⟨hlt, by rw [btT_at hlt]; exact UInt8.toNat_inj.1 (by omega)⟩
      rw [ha]
      have HR := hide h
      clear ha h
      go_enter Try.func52, Try.ntmps52
      go_wp2_with fail
      go_quiet (fail)
      go_wp2_with fail
      go_ret
      exact ⟨rfl, ((HR.out).drewN _).set1 (k + 1), ((Only.refl R w).drewN _).setCell 1 _⟩
    · have ha : isAt s k c = false := decide_eq_false (by rw [btT_at hlt]; intro h; rw [h.2] at h1; exact h1 rfl)
      rw [ha]
      have HR := hide h
      clear ha h
      go_enter Try.func52, Try.ntmps52
      go_wp2_with fail
      go_quiet (fail)
      go_wp2_with fail
      go_ret
      exact ⟨rfl, (HR.out).drewN _, (Only.refl R w).drewN _⟩
  · have ha : isAt s k c = false := decide_eq_false (fun h => hlt h.1)
    have hd : decide ((k : Int) < (s.size : Int)) = false := decide_eq_false (by omega)
    rw [ha]
    have HR := hide h
    clear ha h
    go_enter Try.func52, Try.ntmps52
    go_wp2_with fail
    go_quiet (fail)
    go_wp2_with fail
    go_ret
    exact ⟨rfl, (HR.out).drewN _, (Only.refl R w).drewN _⟩

/-- The library's limit reads as some number. -/
def MaxAt (w : World) : Prop := ∃ m : Int, w.cell? ⟨0, 0, none⟩ = some (.int .i64 m)
theorem MaxAt.below {w w' : World} (h : MaxAt w) (hb : Below w.heap.size w w') : MaxAt w' := by
  obtain ⟨m, h⟩ := h
  exact ⟨m, (hb.cell (World.block_lt_of_cell? _ _ h)).trans h⟩
theorem MaxAt.only {R : Nat} {w w' : World} (h : MaxAt w) (hb : Only R w w') (hr : 0 ≠ R) : MaxAt w' := by
  obtain ⟨m, h⟩ := h
  exact ⟨m, (hb.cell (World.block_lt_of_cell? _ _ h) hr).trans h⟩

/-- Where a comment's end stands behind its beginning. -/
def endI (s : ByteArray) (k : Nat) : Int := Lib.index (s.extract (k + 2) s.size).data.toList [42, 47]
theorem index_le : ∀ (l p : List UInt8), Lib.index l p = -1 ∨ (0 ≤ Lib.index l p ∧ Lib.index l p + p.length ≤ l.length)
  | [], p => by
    unfold Lib.index
    split
    · rename_i h; right; simp at h; simp [h]
    · left; rfl
  | b :: l, p => by
    unfold Lib.index
    split
    · rename_i h; right
      have := (List.isPrefixOf_iff_prefix.1 h).length_le
      exact ⟨by omega, by omega⟩
    · split
      · left; rfl
      · rename_i h
        rcases index_le l p with h1 | h1
        · rw [h1] at h; exact absurd rfl h
        · right; simp only [List.length_cons]; omega
theorem end_le (s : ByteArray) (k : Nat) (hk : k + 2 ≤ s.size) : endI s k < 0 ∨ (0 ≤ endI s k ∧ (k : Int) + 2 + (endI s k + 2) ≤ (s.size : Int)) := by
  have h := index_le (s.extract (k + 2) s.size).data.toList [42, 47]
  rw [show (s.extract (k + 2) s.size).data.toList.length = (s.extract (k + 2) s.size).size by simp, ext_size'] at h
  unfold endI
  simp only [List.length_cons, List.length_nil] at h
  omega

set_option maxRecDepth 100000 in
set_option maxHeartbeats 2000000 in
theorem comment_any (R : Nat) (s : ByteArray) (k f : Nat) (w : World) (h : RdAt R s k f w) (hk : k + 2 ≤ s.size) (hs : s.size ≤ 300000) (hm : MaxAt w) (hr : 0 ≠ R) :
    Calls Try.prog 38 #[.pointer (some ⟨R, 0, none⟩)] w fun en w' => Only R w w' ∧ if endI s k < 0 then en = badV f 30 else en = .returned (.tuple #[]) ∧ RdAt R s (k + 2 + ((endI s k).toNat + 2)) f w' := by
  have c0 := h.c0
  have c1 := h.c1
  have z1 := h.z 1
  have hsl := fun w => sl_from (s := s) (k := k + 2) (by omega) w
  have hk2 : ((k + 2 : Nat) : Int) = (k : Int) + 2 := by omega
  rw [hk2] at hsl
  obtain ⟨m, hm⟩ := hm
  have hgR : (w.setCell ⟨R, 1, none⟩ (.int .i64 ((k : Int) + 2))).cell? ⟨0, 0, none⟩ = some (.int .i64 m) := by
    rw [World.cell?_of_block (w := w) (Below.heap_setCell w ⟨R, 1, none⟩ (.int .i64 ((k : Int) + 2)) _ hr)]; exact hm
  have ci : ∀ n, Calls Try.prog 50 #[.string (s.extract (k + 2) s.size), .string ⟨#[42, 47]⟩] ((w.setCell ⟨R, 1, none⟩ (.int .i64 ((k : Int) + 2))).drewN n) fun e w' => e = .returned (.int .i64 (endI s k)) ∧ w' = ((w.setCell ⟨R, 1, none⟩ (.int .i64 ((k : Int) + 2))).drewN n) :=
    fun n => Try.strings_Index (s.extract (k + 2) s.size) ⟨#[42, 47]⟩ m _ (by rw [ext_size']; omega) hgR
  have hb := end_le s k hk
  have h1 : RdAt R s (k + 2) f (w.setCell ⟨R, 1, none⟩ (.int .i64 ((k : Int) + 2))) := h.set1 (k + 2)
  have ho := (Only.refl R w).setCell 1 (.int .i64 ((k : Int) + 2))
  have HR := hide h1
  have HO := hide ho
  generalize endI s k = I at *
  clear h h1 ho hm hgR hr hsl
  by_cases hn : I < 0
  · simp only [if_pos hn]
    go_enter Try.func38, Try.ntmps38
    go_wp2_with fail
    go_quiet ((go_at_call 50; exact (ci _).mono fun _ _ h => ⟨h.1, _, h.2⟩))
    go_wp2_with fail
    refine (fail_any R s (k + 2) f 30 _ ((HR.out).drewN _)).mono ?_
    rintro e w1 ⟨rfl, rfl⟩
    exact ⟨rfl, (HO.out).drewN _, rfl⟩
  · simp only [if_neg hn]
    go_enter Try.func38, Try.ntmps38
    go_wp2_with fail
    go_quiet ((go_at_call 50; exact (ci _).mono fun _ _ h => ⟨h.1, _, h.2⟩))
    go_wp2_with fail
    go_end0
    obtain ⟨i, rfl⟩ : ∃ i : Nat, I = (i : Int) := ⟨I.toNat, by omega⟩
    exact ⟨(HO.out).drewN _ |>.setCell 1 _, rfl, ((HR.out).drewN nq).set1' _ _ (by omega)⟩

theorem next_end {s : ByteArray} {F k : Nat} (h : s.size ≤ k) : nextV s (F + 1) k = .ok none := by unfold nextV; rw [if_pos h]
theorem next_blank {s : ByteArray} {F k : Nat} (h : k < s.size) (hb : blT (btT s k) = true) : nextV s (F + 1) k = nextV s F (k + 1) := by
  rw [nextV, if_neg (by omega), if_pos hb]
theorem next_word {s : ByteArray} {F k : Nat} (h : k < s.size) (hb : blT (btT s k) = false) (hc : Lib.hasPrefix (s.extract k s.size).data.toList [47, 42] = false) : nextV s (F + 1) k = .ok (some k) := by
  rw [nextV, if_neg (by omega), if_neg (by rw [hb]; simp), if_neg (by rw [hc]; simp)]
theorem next_open {s : ByteArray} {F k : Nat} (h : k < s.size) (hb : blT (btT s k) = false) (hc : Lib.hasPrefix (s.extract k s.size).data.toList [47, 42] = true) : nextV s (F + 1) k = if endI s k < 0 then .error k else nextV s F (k + 2 + ((endI s k).toNat + 2)) := by
  rw [nextV, if_neg (by omega), if_neg (by rw [hb]; simp), if_pos hc]; rfl

/-- How next ends. -/
def NextR (R : Nat) (s : ByteArray) : Except Nat (Option Nat) → Ending → World → Prop
  | .error a, en, _ => en = badV a 30
  | .ok none, en, w' => en = .returned (.bool false) ∧ ∃ k f, RdAt R s k f w'
  | .ok (some a), en, w' => en = .returned (.bool true) ∧ RdAt R s a a w'

set_option maxRecDepth 100000 in
set_option maxHeartbeats 4000000 in
theorem next_any (R : Nat) (s : ByteArray) (k0 f0 : Nat) (w : World) (h : RdAt R s k0 f0 w) (hk0 : k0 ≤ s.size) (hs : s.size ≤ 300000) (hm : MaxAt w) (hr : 0 ≠ R) :
    Calls Try.prog 27 #[.pointer (some ⟨R, 0, none⟩)] w fun en w' => Only R w w' ∧ NextR R s (nextV s (s.size + 1) k0) en w' := by
  go_enter Try.func27, Try.ntmps27
  go_wp2_with fail
  go_loopg [2] (s.size + 1) (fun F b wr => b = .bool false ∧ ∃ k f, RdAt R s k f wr ∧ Only R w wr ∧ k ≤ s.size ∧ s.size < F + k ∧ Hid (nextV s (s.size + 1) k0 = nextV s F k))
  case atStart => exact ⟨rfl, k0, f0, h, Only.refl _ _, hk0, by omega, rfl⟩
  case round =>
    obtain ⟨rfl, k, f, hR, hO, hk, hF, hN⟩ := hrel
    have hm1 := hm.only hO hr
    clear h hm
    obtain ⟨F, rfl⟩ : ∃ F, gk = F + 1 := ⟨gk - 1, by omega⟩
    have c0 := hR.c0
    have c1 := hR.c1
    have c2 := hR.c2
    have z2 := hR.z 2
    have z1 := hR.z 1
    by_cases hlt : k < s.size
    · have hi : (k : Int) < (s.size : Int) := by omega
      have hR2 : RdAt R s k k (wr.setCell ⟨R, 2, none⟩ (.int .i64 (k : Int))) := hR.set2 k
      have HR2 := hide hR2
      have HO := hide hO
      have HM := hide hm1
      have hsl := fun w => sl_from (s := s) (k := k) (by omega) w
      have cb := fun w => tblank_any s[k] w
      have cp : ∀ w, Calls Try.prog 37 #[.string (s.extract k s.size), .string ⟨#[47, 42]⟩] w fun e w' => e = .returned (.bool (Lib.hasPrefix (s.extract k s.size).data.toList [47, 42])) ∧ w' = w := fun w => Try.strings_HasPrefix _ _ w
      clear hR hR2 hO hm1
      cases hb : blT s[k]
      · rw [hb] at cb
        cases hc : Lib.hasPrefix (s.extract k s.size).data.toList [47, 42]
        · have hN2 := hN.out.trans (next_word hlt (by rw [btT_at hlt]; exact hb) hc)
          have HN := hide hN2
          rw [hc] at cp
          clear hN hN2 hb hc
          go_wp2_with fail
          go_quiet (fail)
          go_wp2_with fail
          go_quiet ((go_at_call 19; exact (cb _).mono fun _ _ h => ⟨h.1, _, h.2⟩))
          go_wp2_with fail
          go_quiet ((go_at_call 37; exact (cp _).mono fun _ _ h => ⟨h.1, _, h.2⟩))
          go_wp2_with fail
          go_ret
          rw [HN.out]
          exact ⟨((((HO.out).drewN _).setCell 2 _).drewN _).drewN _, rfl, HR2.out⟩
        · have hp := pre_len hc
          rw [show (s.extract k s.size).data.toList.length = (s.extract k s.size).size by simp, ext_size'] at hp
          have hk2 : k + 2 ≤ s.size := by simp at hp; omega
          have hN2 := hN.out.trans (next_open hlt (by rw [btT_at hlt]; exact hb) hc)
          have HN := hide hN2
          rw [hc] at cp
          have hen := end_le s k hk2
          have HE := hide hen
          clear hN hN2 hb hc hp hen
          go_wp2_with fail
          go_quiet (fail)
          go_wp2_with fail
          go_quiet ((go_at_call 19; exact (cb _).mono fun _ _ h => ⟨h.1, _, h.2⟩))
          go_wp2_with fail
          go_quiet ((go_at_call 37; exact (cp _).mono fun _ _ h => ⟨h.1, _, h.2⟩))
          go_wp2_with fail
          refine (comment_any R s k k _ ?_ hk2 hs ?_ hr).mono ?_
          · exact HR2.out
          · exact (HM.out).only ((((Only.refl R wr).drewN _).setCell 2 _).drewN _) hr
          rintro e w1 ⟨ho1, he⟩
          have ho2 : Only R w w1 := ((((HO.out).drewN _).setCell 2 _).drewN _).trans ho1
          clear ho1 HO HM HR2 cb cp
          by_cases hneg : endI s k < 0
          · rw [if_pos hneg] at he
            have hN3 := HN.out
            rw [if_pos hneg] at hN3
            subst he
            exact ⟨rfl, ho2, by rw [hN3]; rfl⟩
          · rw [if_neg hneg] at he
            obtain ⟨rfl, hR3⟩ := he
            have hN3 := HN.out
            rw [if_neg hneg] at hN3
            have HN3 := hide hN3
            have hle : k + 2 + ((endI s k).toNat + 2) ≤ s.size := by have := HE.out; omega
            have hgt : k < k + 2 + ((endI s k).toNat + 2) := by omega
            clear HN hN3 HE hneg
            generalize k + 2 + ((endI s k).toNat + 2) = k3 at *
            go_wp2_with fail
            go_roundg F
            case measure => omega
            case rel => exact ⟨rfl, k3, k, hR3, ho2, hle, by omega, HN3⟩
      · have hN2 := hN.out.trans (next_blank hlt (by rw [btT_at hlt]; exact hb))
        have HN := hide hN2
        rw [hb] at cb
        clear hN hN2 hb cp
        go_wp2_with fail
        go_quiet (fail)
        go_wp2_with fail
        go_quiet ((go_at_call 19; exact (cb _).mono fun _ _ h => ⟨h.1, _, h.2⟩))
        go_wp2_with fail
        go_roundg F
        case measure => omega
        case rel => exact ⟨rfl, k + 1, k, RdAt.set1' (show RdAt R s k k _ from HR2.out) _ _ (by omega), ((((HO.out).drewN _).setCell 2 _).drewN _).setCell 1 _, by omega, by omega, HN⟩
    · have hN2 := hN.out.trans (next_end (F := F) (by omega))
      have HN := hide hN2
      have hd : ¬ (k : Int) < (s.size : Int) := by omega
      have HR := hide hR
      have HO := hide hO
      clear hN hN2 hR hO hm1
      go_wp2_with fail
      go_quiet (fail)
      go_wp2_with fail
      go_ret
      rw [HN.out]
      exact ⟨(HO.out).drewN _, rfl, k, f, HR.out⟩

end Go.Proofs.Ytcgmnmfglhbcgab
