/- What parts mean, put together; an identifier. -/
import Derived.Test.YtcgmnmfglhbcgabTok7
namespace Go.Proofs.Ytcgmnmfglhbcgab
open Go.RowKit

theorem Only.then' {R : Nat} {a w w' : World} (h : Only R a w) (k : Below a.heap.size w w') : Only R a w' :=
  ⟨k.os.trans h.os, k.tape.trans h.tape, k.output.trans h.output, Nat.le_trans h.size k.size, fun i hi hr => (k.block i hi).trans (h.block i hi hr)⟩
theorem RdAt.below' {R B : Nat} {s : ByteArray} {k f : Nat} {w w' : World} (h : RdAt R s k f w) (hb : Below B w w') (hR : R < B) : RdAt R s k f w' := (hb.block R hR).trans h

/-- How a call of the reader's ends that tells a text. -/
def MeanR (R : Nat) (s : ByteArray) (f : Nat) : Except Int (ByteArray × Nat) → Ending → World → Prop
  | .error er, en, _ => en = badV f er
  | .ok (t, k'), en, w' => en = .returned (.string t) ∧ RdAt R s k' f w'
/-- What a closure answers that tells a part. -/
def PartR (f : Nat) : Option (ByteArray × Nat) → Ending → Prop
  | none, en => en = badV f 30
  | some (m, n), en => en = .returned (.tuple #[.string m, .int .i64 (n : Int)])

theorem mean_none {p : Nat → Option (ByteArray × Nat)} {F k : Nat} {acc : List UInt8} (h : p k = none) : mean p (F + 1) k acc = none := by
  rw [mean, h]
theorem mean_done {p : Nat → Option (ByteArray × Nat)} {F k : Nat} {acc : List UInt8} {m : ByteArray} (h : p k = some (m, 0)) : mean p (F + 1) k acc = some (acc, k) := by
  rw [mean, h]; rfl
theorem mean_zero {p : Nat → Option (ByteArray × Nat)} {F k n : Nat} {acc : List UInt8} {m : ByteArray} (h : p k = some (m, n)) (hn : n ≠ 0) (h0 : m.data.toList = [0]) : mean p (F + 1) k acc = none := by
  rw [mean, h]; simp only; rw [if_neg hn, if_pos h0]
theorem mean_step {p : Nat → Option (ByteArray × Nat)} {F k n : Nat} {acc : List UInt8} {m : ByteArray} (h : p k = some (m, n)) (hn : n ≠ 0) (h0 : ¬ m.data.toList = [0]) : mean p (F + 1) k acc = mean p F (k + n) (acc ++ m.data.toList) := by
  rw [mean, h]; simp only; rw [if_neg hn, if_neg h0]

/-- A builder of the call's own stays as it is while the reader goes on. -/
theorem builder_only {T e B b R : Nat} {bs : List Value} {w w' : World} (h : Lib.IsBuilder T e B b bs w) (hb : Only R w w') (hR : R < B) : Lib.IsBuilder T e B b bs w' := by
  have key : ∀ p, Lib.BuilderAt T e B b p bs w → Lib.BuilderAt T e B b p bs w' := by
    intro p h
    have hlt := h.lt
    obtain ⟨hB, v, hbk, hown, hne⟩ := h
    refine ⟨hB, v, (hb.block b hlt (by omega)).trans hbk, ?_, hne⟩
    refine ⟨hown.1, ?_⟩
    rcases hown.2 with ⟨hv, hn⟩ | ⟨g, cap, cur, hv, hbg, hg, r⟩
    · exact .inl ⟨hv, hn⟩
    · have hgl : g < w.heap.size := (Array.getElem?_eq_some_iff.1 hg).1
      exact .inr ⟨g, cap, cur, hv, hbg, (hb.block g hgl (by omega)).trans hg, r⟩
  rcases h with h | h
  · exact .inl (key _ h)
  · exact .inr (key _ h)

set_option maxRecDepth 100000 in
set_option maxHeartbeats 4000000 in
theorem meaning_any (R : Nat) (s : ByteArray) (k0 f lim : Nat) (F : Nat) (caps : Array Value) (p : Nat → Option (ByteArray × Nat)) (w : World) (h : RdAt R s k0 f w) (hk0 : k0 ≤ s.size) (hs : s.size ≤ 300000)
    (hp : ∀ k m n, k ≤ s.size → p k = some (m, n) → k + n ≤ s.size) (h4 : ∀ k m n, p k = some (m, n) → m.size ≤ 4)
    (eF : ∀ args w, (callFunc F args).run Try.prog w = .ok (.enter F args) w)
    (hc : ∀ k w', k ≤ s.size → RdAt R s k f w' → Only R w w' → Calls Try.prog F caps w' fun e w'' => PartR f (p k) e ∧ Below w'.heap.size w' w'') :
    Calls Try.prog 54 #[.pointer (some ⟨R, 0, none⟩), .int .i64 (lim : Int), .func (.func F) #[] caps] w fun en w' => Only R w w' ∧ MeanR R s f (meanV s lim p k0) en w' := by
  have hRl := h.lt
  have h0 : Lib.IsBuilder 78 5 w.heap.size w.heap.size (Lib.byteCells []) (w.alloc (.cells #[.pointer none, .slice none 0 0] 78)) := Lib.fresh_isBuilder _ _ w
  have b0 : Below w.heap.size w (w.alloc (.cells #[.pointer none, .slice none 0 0] 78)) := (Below.refl _ w).alloc (Nat.le_refl _) _
  have hR0 := h.below b0
  have HC := hide hc
  have HP := hide hp
  have H4 := hide h4
  clear hc hp h4 h
  go_enter Try.func54, Try.ntmps54
  go_wp2_with fail
  go_loopg [] (s.size + 1) (fun G wr => ∃ k acc, RdAt R s k f wr ∧ Only R w wr ∧ k ≤ s.size ∧ s.size < G + k ∧ acc.length + 4 * G ≤ 4 * (s.size + 1) ∧ Lib.IsBuilder 78 5 w.heap.size w.heap.size (Lib.byteCells acc) wr ∧ Hid (mean p (s.size + 1) k0 [] = mean p G k acc))
  case atStart => exact ⟨k0, [], hR0, .of b0, hk0, by omega, by simp, h0, rfl⟩
  case round =>
    clear h0 b0 hR0
    obtain ⟨k, acc, hR, hO, hk, hG, hl, hI, hM⟩ := hrel
    obtain ⟨G, rfl⟩ : ∃ G, gk = G + 1 := ⟨gk - 1, by omega⟩
    have HR := hide hR
    have HO := hide hO
    have HI := hide hI
    clear hR hO hI
    go_wp2_with fail
    refine (unhide HC k _ hk HR.out HO.out).mono ?_
    rintro e w1 ⟨hpart, hb1⟩
    have hR1 := (HR.out).below hb1
    have hO1 := (HO.out).thenBelow hb1
    have hI1 := builder_only HI.out (Only.of (R := R) hb1) hRl
    clear HR HO HI
    cases hpk : p k with
    | none =>
      rw [hpk] at hpart
      have he : e = badV f 30 := hpart
      subst he
      have hm : meanV s lim p k0 = .error 30 := by unfold meanV; rw [hM.out, mean_none hpk]
      exact ⟨rfl, hO1, by rw [hm]; rfl⟩
    | some mn =>
      obtain ⟨m, n⟩ := mn
      rw [hpk] at hpart
      have he : e = .returned (.tuple #[.string m, .int .i64 (n : Int)]) := hpart
      subst he
      have hkn := (HP.out) k m n hk hpk
      have hm4 := (H4.out) k m n hpk
      by_cases hn : n = 0
      · subst hn
        have hmv : meanV s lim p k0 = if lim < acc.length then .error 52 else .ok (⟨acc.toArray⟩, k) := by unfold meanV; rw [hM.out, mean_done hpk]
        have HM := hide hmv
        have HR := hide hR1
        have HO := hide hO1
        clear hM hmv hpk hpart hR1 hO1 hkn hm4 HC HP H4
        go_wp2_with fail
        refine (Try.Builder_Len w.heap.size w.heap.size _ _ hI1).mono ?_
        rintro e w2 ⟨rfl, rfl⟩
        rw [Lib.byteCells_length]
        by_cases hlim : lim < acc.length
        · have hli : (lim : Int) < (acc.length : Int) := by omega
          go_wp2_with fail
          refine (fail_any R s k f 52 _ HR.out).mono ?_
          rintro e w2 ⟨rfl, rfl⟩
          exact ⟨rfl, HO.out, by rw [HM.out, if_pos hlim]; rfl⟩
        · have hli : ¬ (lim : Int) < (acc.length : Int) := by omega
          go_wp2_with fail
          refine (Try.Builder_String_any w.heap.size w.heap.size acc _ hI1 (HO.out).size).mono ?_
          rintro e w2 ⟨rfl, hb2⟩
          have hR3 := (HR.out).below' hb2 hRl
          have hO3 := (HO.out).then' hb2
          clear hI1 hb2 HR HO
          go_wp2_with fail
          go_ret
          exact ⟨hO3, by rw [HM.out, if_neg hlim]; exact ⟨rfl, hR3⟩⟩
      · have hnb : ((n : Int) == 0) = false := by rw [beq_eq_false_iff_ne]; omega
        have HR := hide hR1
        have HO := hide hO1
        by_cases hz : m.data.toList = [0]
        · have hzb : (m.toList == [0]) = true := by rw [ByteArray.toList_eq, hz]; rfl
          have hmv : meanV s lim p k0 = .error 30 := by unfold meanV; rw [hM.out, mean_zero hpk hn hz]
          have HM := hide hmv
          clear hM hmv hpk hpart hR1 hO1 hkn hm4 HC HP H4 hI1 hz
          go_wp2_with fail
          refine (fail_any R s k f 30 _ HR.out).mono ?_
          rintro e w2 ⟨rfl, rfl⟩
          exact ⟨rfl, HO.out, by rw [HM.out]; rfl⟩
        · have hzb : (m.toList == [0]) = false := by rw [ByteArray.toList_eq, beq_eq_false_iff_ne]; exact hz
          have hM2 := hM.out.trans (mean_step hpk hn hz)
          have HM := hide hM2
          clear hM hM2 hpk hpart hR1 hO1 HC HP H4 hz
          go_wp2_with fail
          refine (writeStr_any w.heap.size w.heap.size _ m _ hI1 (by rw [Lib.byteCells_length]; omega) (HO.out).size).mono ?_
          rintro e w2 ⟨rfl, hI2, hb2⟩
          have hR3 := (HR.out).below' hb2 hRl
          have hO3 := (HO.out).then' hb2
          rw [show Lib.byteCells acc ++ Lib.strCells m = Lib.byteCells (acc ++ m.data.toList) by simp [Lib.byteCells, Lib.strCells]] at hI2
          have c1 := hR3.c1
          have z1 := hR3.z 1
          have HR3 := hide hR3
          have HO3 := hide hO3
          have HI2 := hide hI2
          clear HR HO hI1 hb2 hR3 hO3 hI2
          go_wp2_with fail
          go_roundg G
          case measure => omega
          case rel => exact ⟨k + n, acc ++ m.data.toList, (HR3.out).set1' _ _ (by omega), (HO3.out).setCell 1 _, hkn, by omega, by rw [List.length_append, show m.data.toList.length = m.size by simp]; omega, builder_only HI2.out ((Only.refl R w2).setCell 1 _) hRl, HM⟩

end Go.Proofs.Ytcgmnmfglhbcgab
