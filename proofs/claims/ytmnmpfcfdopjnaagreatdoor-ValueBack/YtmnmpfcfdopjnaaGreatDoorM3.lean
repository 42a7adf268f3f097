/- The texts that this proof stands on, part 3 of 4. -/
import Derived.Test.YtmnmpfcfdopjnaaGreatDoorM2
import Derived.Laws.Bits64b
import Derived.Laws.BytesArg
import Derived.Laws.Strings2
import Derived.Shelf.Abstract
import Derived.Below
import Derived.WalkKit
import Derived.Laws.BitsLemmas
import Derived.Test.YtmnmpfcfdopjnaaGreatDoorProg
import Derived.Test.YtmnmpfcfdopjnaaGreatDoorM1
import Derived.RangeFuncBox
import Derived.Outline
import Derived.WalkLawsBesides
import Derived.Lib.SlBytesConst
import Derived.Lib.ConvBytes

/- All words, walked. -/
namespace Go.Proofs.YtmnmpfcfdopjnaaGreatDoor
open Go.RowKit

/-- The cells of words. -/
def tkCells (l : List (Wd × Nat)) : List Value := l.flatMap fun x => [.int .i64 x.1.kind, .int .i64 (x.2 : Int), .string x.1.text, .string x.1.num]
theorem tkCells_snoc (l : List (Wd × Nat)) (t : Wd) (a : Nat) : tkCells (l ++ [(t, a)]) = tkCells l ++ [.int .i64 t.kind, .int .i64 (a : Int), .string t.text, .string t.num] := by simp [tkCells]
theorem tkLen (l : List (Wd × Nat)) : (tkCells l).length = l.length * 4 := by
  induction l with
  | nil => rfl
  | cons x l ih => simp [tkCells] at ih ⊢; omega
theorem tk_info : (Tryz.prog.info? 56).map (fun i => (i.zero, i.size, i.bytes)) = some (some (.agg #[.int .i64 0, .int .i64 0, .string ⟨#[]⟩, .string ⟨#[]⟩]), 4, 48) := by kernel_rfl

theorem own_only {w w' : World} {R base e size n : Nat} {v : Value} {xs : List Value} (h : w.ownsRow base e size v n xs) (ho : Only R w w') (hR : R < base) : w'.ownsRow base e size v n xs := by
  obtain ⟨h1, h2⟩ := h
  refine ⟨h1, ?_⟩
  rcases h2 with h2 | ⟨g, cap, cur, hv, hg, hh, r⟩
  · exact .inl h2
  · exact .inr ⟨g, cap, cur, hv, hg, (ho.block g (Array.getElem?_eq_some_iff.1 hh).1 (by omega)).trans hh, r⟩
theorem own_below {w w' : World} {base e size n : Nat} {v : Value} {xs : List Value} (h : w.ownsRow base e size v n xs) (ho : Below w.heap.size w w') : w'.ownsRow base e size v n xs := by
  obtain ⟨h1, h2⟩ := h
  refine ⟨h1, ?_⟩
  rcases h2 with h2 | ⟨g, cap, cur, hv, hg, hh, r⟩
  · exact .inl h2
  · exact .inr ⟨g, cap, cur, hv, hg, (ho.block g (Array.getElem?_eq_some_iff.1 hh).1).trans hh, r⟩

theorem cell_four_new (w : World) (T b : Nat) (hb : b = w.heap.size) (c0 c1 c2 c3 : Value) : ∀ j u, [c0, c1, c2, c3][j]? = some u → (w.alloc (.cells #[c0, c1, c2, c3] T)).cell? ((⟨b, 0, none⟩ : Addr).add j) = some u := by
  subst hb
  intro j u h
  have hn := heap_alloc_new w (.cells #[c0, c1, c2, c3] T)
  have e : (⟨w.heap.size, 0, none⟩ : Addr).add j = ⟨w.heap.size, j, none⟩ := by simp [Addr.add]; exact fun h => h.symm
  rw [e, Lib.cell_of_heap hn]
  simpa using h

/-- The reading's blocks: the list, the fault, the reader. -/
structure RS (w : World) (s : ByteArray) (k f : Nat) (acc : List (Wd × Nat)) (v : Value) (wr : World) : Prop where
  rd : RdAt (w.heap.size + 1 + 1) s k f wr
  ls : Boxed wr w.heap.size 33 v
  own : wr.ownsRow (w.heap.size + 3) 56 4 v acc.length (tkCells acc)
  ft : wr.heap[w.heap.size + 1]? = some (.cells #[.int .i64 0, .int .i64 0] 65 (0, 0))
  bl : Below w.heap.size w wr
theorem RS.only {w : World} {s : ByteArray} {k f : Nat} {acc : List (Wd × Nat)} {v : Value} {wr w' : World} (h : RS w s k f acc v wr) (ho : Only (w.heap.size + 1 + 1) wr w') {k' f' : Nat} (hr : RdAt (w.heap.size + 1 + 1) s k' f' w') : RS w s k' f' acc v w' :=
  ⟨hr, (ho.block _ h.ls.lt (by omega)).trans h.ls, own_only h.own ho (by omega), (ho.block _ (Array.getElem?_eq_some_iff.1 h.ft).1 (by omega)).trans h.ft, h.bl.trans (ho.below (by omega) h.bl.size)⟩

/-- How read ends. -/
def ReadR (w : World) : Except (Nat × Int) (List (Wd × Nat)) → Ending → World → Prop
  | .error (a, e), en, _ => en = .returned (.tuple #[.slice none 0 0, .agg #[.int .i64 (a : Int), .int .i64 e]])
  | .ok l, en, w' => ∃ v, en = .returned (.tuple #[v, .agg #[.int .i64 0, .int .i64 0]]) ∧ w'.ownsRow (w.heap.size + 3) 56 4 v l.length (tkCells l)

theorem read_err {s : ByteArray} {F k a : Nat} {acc : List (Wd × Nat)} (h : nextV s (s.size + 1) k = .error a) : readV s (F + 1) k acc = .error (a, 30) := by rw [readV, h]
theorem read_done {s : ByteArray} {F k : Nat} {acc : List (Wd × Nat)} (h : nextV s (s.size + 1) k = .ok none) : readV s (F + 1) k acc = .ok acc := by rw [readV, h]
theorem read_bad {s : ByteArray} {F k a : Nat} {e : Int} {acc : List (Wd × Nat)} (h : nextV s (s.size + 1) k = .ok (some a)) (hw : wordV s a = .error e) : readV s (F + 1) k acc = .error (a, e) := by rw [readV, h]; simp only; rw [hw]
theorem read_step {s : ByteArray} {F k a k' : Nat} {t : Wd} {acc : List (Wd × Nat)} (h : nextV s (s.size + 1) k = .ok (some a)) (hw : wordV s a = .ok (t, k')) : readV s (F + 1) k acc = readV s F k' (acc ++ [(t, a)]) := by rw [readV, h]; simp only; rw [hw]
theorem next_le {s : ByteArray} : ∀ (F k : Nat) {a : Nat}, nextV s F k = .ok (some a) → k ≤ a ∧ a < s.size
  | 0, _, _, h => by cases h
  | F + 1, k, a, h => by
    unfold nextV at h
    split at h
    · cases h
    · split at h
      · have := next_le F _ h; omega
      · split at h
        · split at h
          · cases h
          · have := next_le F _ h; omega
        · simp only [Except.ok.injEq, Option.some.injEq] at h; omega

theorem rs_start (w : World) (s : ByteArray) : RS w s 0 0 [] (.slice none 0 0) (((w.alloc (.cells #[.slice none 0 0] 33)).alloc (.cells #[.int .i64 0, .int .i64 0] 65)).alloc (.cells #[.string s, .int .i64 0, .int .i64 0] 86)) := by
  have b1 : Below w.heap.size w (w.alloc (.cells #[.slice none 0 0] 33)) := (Below.refl _ w).alloc (Nat.le_refl _) _
  have s1 : (w.alloc (.cells #[.slice none 0 0] 33)).heap.size = w.heap.size + 1 := by simp
  have n1 := heap_alloc_new w (.cells #[.slice none 0 0] 33)
  generalize w.alloc (.cells #[.slice none 0 0] 33) = w1 at *
  have b2 := b1.alloc (by omega) (.cells #[.int .i64 0, .int .i64 0] 65)
  have s2 : (w1.alloc (.cells #[.int .i64 0, .int .i64 0] 65)).heap.size = w1.heap.size + 1 := by simp
  have n2 := heap_alloc_new w1 (.cells #[.int .i64 0, .int .i64 0] 65)
  have m1 := (Below.heap_alloc w1 (.cells #[.int .i64 0, .int .i64 0] 65) w.heap.size (by omega)).trans n1
  generalize w1.alloc (.cells #[.int .i64 0, .int .i64 0] 65) = w2 at *
  have b3 := b2.alloc (by omega) (.cells #[.string s, .int .i64 0, .int .i64 0] 86)
  have n3 := heap_alloc_new w2 (.cells #[.string s, .int .i64 0, .int .i64 0] 86)
  have m2 := (Below.heap_alloc w2 (.cells #[.string s, .int .i64 0, .int .i64 0] 86) w.heap.size (by omega)).trans m1
  have m3 := (Below.heap_alloc w2 (.cells #[.string s, .int .i64 0, .int .i64 0] 86) w1.heap.size (by omega)).trans n2
  rw [s2, s1] at n3
  rw [s1] at m3
  exact ⟨n3, m2, World.ownsRow_nil _ _ _ _, m3, b3⟩

/-- A panic goes through the door: it is recovered. -/
theorem door_bad (w : World) (v : Value) (wr : World) (tmps : Array Value) (a : Nat) (e : Int) (h2 : tmps[2]? = some (.pointer (some ⟨w.heap.size, 0, none⟩))) (h3 : tmps[3]? = some (.pointer (some ⟨w.heap.size + 1, 0, none⟩)))
    (hl : Boxed wr w.heap.size 33 v) (hf : wr.heap[w.heap.size + 1]? = some (.cells #[.int .i64 0, .int .i64 0] 65 (0, 0))) (hb : Below w.heap.size w wr) (Q : Ending → World → Prop) (hQ : ∀ en w', Below w.heap.size w w' → en = .returned (.tuple #[.slice none 0 0, .agg #[.int .i64 (a : Int), .int .i64 e]]) → Q en w') :
    bodyPostD Tryz.prog Tryz.f35 Q (.panic [{ v := .iface 65 (.agg #[.int .i64 (a : Int), .int .i64 e]), recovered := false }]) { tmps := tmps, defers := [{ target := .fn (.func 50) #[.pointer (some ⟨w.heap.size, 0, none⟩), .pointer (some ⟨w.heap.size + 1, 0, none⟩)], args := #[] }] } wr := by
  refine leaves_cons (f := 50) (args := #[.pointer (some ⟨w.heap.size, 0, none⟩), .pointer (some ⟨w.heap.size + 1, 0, none⟩)]) (by simp) (by simp [go_sem]) ?_
  refine (catch_panicking w.heap.size (w.heap.size + 1) v 0 0 a e wr hl hf (by omega)).mono ?_
  rintro en u' w2 ⟨rfl, rfl, hL, hT, hB⟩
  have c0 : w2.cell? ⟨w.heap.size, 0, none⟩ = some (.slice none 0 0) := by rw [Lib.cell_of_heap hL]; rfl
  have d0 : w2.cell? ⟨w.heap.size + 1, 0, none⟩ = some (.int .i64 (a : Int)) := by rw [Lib.cell_of_heap hT]; rfl
  have d1 : w2.cell? ⟨w.heap.size + 1, 1, none⟩ = some (.int .i64 e) := by rw [Lib.cell_of_heap hT]; rfl
  have hbb := hb.trans (hB w.heap.size (Nat.le_refl _) (by omega))
  simp [Leaves, settle, results, Tryz.results35, go_sem, h2, h3, c0, d0, d1]
  exact hQ _ _ hbb rfl

/-- A return goes through the door: nothing is recovered. -/
theorem door_ok (w wr : World) (v : Value) (tmps : Array Value) (h2 : tmps[2]? = some (.pointer (some ⟨w.heap.size, 0, none⟩))) (h3 : tmps[3]? = some (.pointer (some ⟨w.heap.size + 1, 0, none⟩)))
    (c0 : wr.cell? ⟨w.heap.size, 0, none⟩ = some v) (d0 : wr.cell? ⟨w.heap.size + 1, 0, none⟩ = some (.int .i64 0)) (d1 : wr.cell? ⟨w.heap.size + 1, 1, none⟩ = some (.int .i64 0)) (Q : Ending → World → Prop) (hQ : Q (.returned (.tuple #[v, .agg #[.int .i64 0, .int .i64 0]])) wr) :
    bodyPostD Tryz.prog Tryz.f35 Q .ret { tmps := tmps, defers := [{ target := .fn (.func 50) #[.pointer (some ⟨w.heap.size, 0, none⟩), .pointer (some ⟨w.heap.size + 1, 0, none⟩)], args := #[] }] } wr := by
  refine leaves_cons (f := 50) (args := #[.pointer (some ⟨w.heap.size, 0, none⟩), .pointer (some ⟨w.heap.size + 1, 0, none⟩)]) (by simp) (by simp [go_sem]) ?_
  refine (catch_idle ⟨w.heap.size, 0, none⟩ ⟨w.heap.size + 1, 0, none⟩ wr).mono ?_
  rintro en u' w2 ⟨rfl, rfl, rfl⟩
  simp [Leaves, settle, results, Tryz.results35, go_sem, h2, h3, c0, d0, d1]
  exact hQ

set_option maxRecDepth 100000 in
set_option maxHeartbeats 4000000 in
theorem read_any (s : ByteArray) (w : World) (hs : s.size ≤ 300000) (hm : MaxAt w) :
    Calls Tryz.prog 35 #[.string s] w fun en w' => Below w.heap.size w w' ∧ ReadR w (readV s (s.size + 1) 0 []) en w' := by
  have hmf : ∀ (fn : Fn) (first cap : Array Value) (w : World), (Instr.makeFunc fn first cap).run Tryz.prog w = .ok (.func fn first cap) w := fun _ _ _ _ => rfl
  have hst := rs_start w s
  have hg : 4 ≠ w.heap.size + 1 + 1 := by obtain ⟨m, h⟩ := hm; have := World.block_lt_of_cell? _ _ h; simp at this; omega
  have HM := hide hm
  clear hm
  go_enter_defers Tryz.func35, Tryz.ntmps35
  go_wp2_with fail
  go_loopg [] (s.size + 1) (fun F wr => ∃ k f acc v, RS w s k f acc v wr ∧ k ≤ s.size ∧ s.size < F + k ∧ acc.length + F ≤ s.size + 1 ∧ Hid (readV s (s.size + 1) 0 [] = readV s F k acc))
  case atStart => exact ⟨0, 0, [], _, hst, Nat.zero_le _, by omega, by simp, rfl⟩
  case round =>
    clear hst
    obtain ⟨k, f, acc, v, hS, hk, hF, hA, hV⟩ := hrel
    obtain ⟨F, rfl⟩ : ∃ F, gk = F + 1 := ⟨gk - 1, by omega⟩
    go_wp2_with fail
    refine (next_any (w.heap.size + 1 + 1) s k f _ hS.rd hk hs ((HM.out).below (hS.bl)) hg).mono ?_
    rintro e w1 ⟨ho, hn⟩
    cases hnv : nextV s (s.size + 1) k with
    | error a =>
      rw [hnv] at hn
      obtain rfl : e = badV a 30 := hn
      have hl := (ho.block _ hS.ls.lt (by omega)).trans hS.ls
      have hf := (ho.block _ (Array.getElem?_eq_some_iff.1 hS.ft).1 (by omega)).trans hS.ft
      have hb := hS.bl.trans (ho.below (by omega) hS.bl.size)
      refine door_bad w v w1 _ a 30 rfl rfl hl hf hb _ fun en w' hB he => ⟨hB, ?_⟩
      rw [hV.out, read_err hnv]
      exact he
    | ok o =>
      cases o with
      | none =>
        rw [hnv] at hn
        obtain ⟨rfl, k', f', hR⟩ := hn
        have hS1 := hS.only ho hR
        have c0 := hS1.ls.cell
        have z0 := hS1.ls.frozen
        have t0 : w1.cell? ⟨w.heap.size + 1, 0, none⟩ = some (.int .i64 0) := by rw [Lib.cell_of_heap hS1.ft]; rfl
        have t1 : w1.cell? ⟨w.heap.size + 1, 1, none⟩ = some (.int .i64 0) := by rw [Lib.cell_of_heap hS1.ft]; rfl
        have tz := Lib.frozen_of_heap hS1.ft
        have HS := hide hS1
        have HV := hide (hV.out.trans (read_done hnv))
        clear hS hS1 hV hnv ho hR
        obtain ⟨ao, n', cap, rfl⟩ : ∃ ao n' cap, v = .slice ao n' cap := by
          rcases (HS.out).own.2 with ⟨hv, _⟩ | ⟨g, cap, cur, hv, _⟩
          · exact ⟨_, _, _, hv⟩
          · exact ⟨_, _, _, hv⟩
        go_wp2_with fail
        refine door_ok w _ (.slice ao n' cap) _ rfl rfl (by simp [go_sem, c0]) (by simp [go_sem, t0]) (by simp [go_sem, t1]) _ ⟨?_, ?_⟩
        · exact (((HS.out).bl.setCell (p := ⟨w.heap.size, 0, none⟩) (Nat.le_refl _) _).setCell (p := ⟨w.heap.size + 1, 0, none⟩) (Nat.le_succ _) _).setCell (p := ⟨w.heap.size + 1, 1, none⟩) (Nat.le_succ _) _
        · rw [HV.out]
          exact ⟨_, rfl, ownsRow_setCell_below (ownsRow_setCell_below (ownsRow_setCell_below (HS.out).own (a := ⟨w.heap.size, 0, none⟩) (by show w.heap.size < _; omega) _) (a := ⟨w.heap.size + 1, 0, none⟩) (by show w.heap.size + 1 < _; omega) _) (a := ⟨w.heap.size + 1, 1, none⟩) (by show w.heap.size + 1 < _; omega) _⟩
      | some a =>
        rw [hnv] at hn
        obtain ⟨rfl, hR⟩ := hn
        have hS1 := hS.only ho hR
        have ha := next_le _ _ hnv
        have HN := hide hnv
        have HV := hide hV.out
        have HS := hide hS1
        clear hS hS1 hV hnv ho hR
        go_wp2_with fail
        refine (word_any (w.heap.size + 1 + 1) s a a _ (HS.out).rd ha.2 hs).mono ?_
        rintro e w2 ⟨ho2, hw2⟩
        cases hwv : wordV s a with
        | error er =>
          rw [hwv] at hw2
          obtain rfl : e = badV a er := hw2
          have hl := (ho2.block _ (HS.out).ls.lt (by omega)).trans (HS.out).ls
          have hf := (ho2.block _ (Array.getElem?_eq_some_iff.1 (HS.out).ft).1 (by omega)).trans (HS.out).ft
          have hb := (HS.out).bl.trans (ho2.below (by omega) (HS.out).bl.size)
          refine door_bad w v w2 _ a er rfl rfl hl hf hb _ fun en w' hB he => ⟨hB, ?_⟩
          rw [HV.out, read_bad HN.out hwv]
          exact he
        | ok tk =>
          obtain ⟨⟨kd, tx, nm⟩, k'⟩ := tk
          rw [hwv] at hw2
          obtain ⟨rfl, hR2⟩ : e = .returned (.agg #[.int .i64 kd, .int .i64 0, .string tx, .string nm]) ∧ RdAt (w.heap.size + 1 + 1) s k' a w2 := hw2
          have hS2 := (HS.out).only ho2 hR2
          have hwl := word_le ha.2 hwv
          have HV2 := hide (HV.out.trans (read_step HN.out hwv))
          have HS2 := hide hS2
          have c2 := hR2.c2
          have cl := hS2.ls.cell
          have zl := hS2.ls.frozen
          have hlr := hR2.lt
          have hll := hS2.ls.lt
          have al : ∀ o, (w2.alloc o).cell? ⟨w.heap.size, 0, none⟩ = some v := fun o => (World.cell?_of_block (w := w2) (Below.heap_alloc w2 o w.heap.size hll)).trans cl
          clear HS HV HN hwv ho2 hS2 hR2
          obtain ⟨i0, hi, hz0, hz1, hz2⟩ := info_parts tk_info
          have b1 : Below w2.heap.size w2 (w2.alloc (.cells #[.int .i64 kd, .int .i64 (a : Int), .string tx, .string nm] 56)) := (Below.refl _ w2).alloc (Nat.le_refl _) _
          have b2 := b1.alloc b1.size (.cells #[.int .i64 kd, .int .i64 (a : Int), .string tx, .string nm] 56)
          have own4 := own_below (HS2.out).own b2
          have hl4 := tkLen acc
          go_wp2_with (at_builtin; refine wpList_append_own _ rfl _ _ 33 rfl (w.heap.size + 3) 56 i0 _ 4 48 Tryz.underlying33 hi hz0 hz1 hz2 rfl (by decide) _ _ _ rfl own4 ⟨w2.heap.size + 1, 0, none⟩ 1 1 [.int .i64 kd, .int .i64 (a : Int), .string tx, .string nm] rfl rfl (cell_four_new _ _ _ (by simp) _ _ _ _) (by simp [Value.oneCell']) (by unfold maxLen; omega) (by omega) (by simp; omega) ?_)
          intro v' w5 hown' hgrow _
          obtain ⟨ao, n', cap, rfl⟩ : ∃ ao n' cap, v' = .slice ao n' cap := by
            rcases hown'.2 with ⟨hv, _⟩ | ⟨g, cap, cur, hv, _⟩
            · exact ⟨_, _, _, hv⟩
            · exact ⟨_, _, _, hv⟩
          have hrow : ∀ i, v.ownBlock = some i → w.heap.size + 3 ≤ i := fun i hi => (own4.lt i hi).1
          have hsz : w2.heap.size + 2 ≤ w5.heap.size := by have := hgrow.size; simp at this; omega
          have blk : ∀ i, i < w.heap.size + 3 → i < w2.heap.size → w5.heap[i]? = w2.heap[i]? := fun i h1 h2 =>
            (hgrow.block i (by simp; omega) (fun e => by have := hrow i e.symm; omega)).trans (b2.block i h2)
          have hl5 : Boxed w5 w.heap.size 33 v := (blk _ (by omega) hll).trans (HS2.out).ls
          have hf5 := (blk (w.heap.size + 1) (by omega) (by omega)).trans (HS2.out).ft
          have hR5 : RdAt (w.heap.size + 1 + 1) s k' a w5 := (blk (w.heap.size + 1 + 1) (by omega) hlr).trans (HS2.out).rd
          have hb5 : Below w.heap.size w w5 := ((HS2.out).bl.trans (b2.mono (HS2.out).bl.size)).grown hgrow (by have := (HS2.out).bl.size; simp; omega) (fun i hi => by have := hrow i hi; omega)
          have c5 := hl5.cell
          have z5 := hl5.frozen
          rw [show acc.length + 1 = (acc ++ [((⟨kd, tx, nm⟩ : Wd), a)]).length by simp, ← tkCells_snoc acc ⟨kd, tx, nm⟩ a] at hown'
          have hS5 : RS w s k' a (acc ++ [(⟨kd, tx, nm⟩, a)]) (.slice ao n' cap) (w5.setCell ⟨w.heap.size, 0, none⟩ (.slice ao n' cap)) :=
            ⟨hR5.setOther (by omega) 0 _, by
              show (w5.setCell ⟨w.heap.size, 0, none⟩ (.slice ao n' cap)).heap[w.heap.size]? = _
              simp [World.setCell, Array.getElem?_modify, show w5.heap[w.heap.size]? = _ from hl5], ownsRow_setCell_below hown' (by show w.heap.size < _; omega) _,
              (Below.heap_setCell _ _ _ _ (by show w.heap.size + 1 ≠ w.heap.size; omega)).trans hf5, hb5.setCell (p := ⟨w.heap.size, 0, none⟩) (Nat.le_refl _) _⟩
          have HS5 := hide hS5
          clear hS5 hown' hgrow hl5 hf5 hR5 hb5 blk hrow own4 b1 b2 HS2 al cl zl c2
          go_wp2_with fail
          go_roundg F
          case measure => omega
          case rel => exact ⟨k', a, _, _, HS5.out, hwl.2, by omega, by simp; omega, HV2⟩

end Go.Proofs.YtmnmpfcfdopjnaaGreatDoor

/- Tokens, walked, of texts that have no more bytes than words are allowed. -/
namespace Go.Proofs.YtmnmpfcfdopjnaaGreatDoor
open Go.RowKit

theorem meanV_err {s : ByteArray} {lim : Nat} {p : Nat → Option (ByteArray × Nat)} {k : Nat} {e : Int} (h : meanV s lim p k = .error e) : e = 30 ∨ e = 52 := by
  unfold meanV at h
  split at h
  · simp only [Except.error.injEq] at h; omega
  · split at h
    · simp only [Except.error.injEq] at h; omega
    · cases h
theorem ident_err {s : ByteArray} {k : Nat} {e : Int} (h : identV s k = .error e) : e = 30 ∨ e = 52 := meanV_err h
theorem word_err {s : ByteArray} {k : Nat} {e : Int} (h : wordV s k = .error e) : e = 30 ∨ e = 52 := by
  unfold wordV at h
  split at h
  · unfold numV at h
    split at h
    · cases h
    · split at h
      · split at h
        · rename_i hi; simp only [Except.error.injEq] at h; subst h; exact ident_err hi
        · cases h
      · cases h
  · split at h
    · unfold nameV at h
      split at h
      · rename_i hi; simp only [Except.error.injEq] at h; subst h; exact ident_err hi
      · split at h <;> cases h
    · split at h
      · unfold quotV at h
        split at h
        · rename_i hi; simp only [Except.error.injEq] at h; subst h; exact meanV_err hi
        · cases h
      · split at h
        · simp only [Except.error.injEq] at h; omega
        · cases h
theorem next_err {s : ByteArray} : ∀ (F k : Nat) {a : Nat}, k ≤ s.size → s.size < F + k → nextV s F k = .error a → a ≤ s.size
  | 0, _, _, h1, h2, _ => by omega
  | F + 1, k, a, h1, h2, h => by
    unfold nextV at h
    split at h
    · cases h
    · split at h
      · exact next_err F _ (by omega) (by omega) h
      · split at h
        · rename_i hp
          have hp2 := pre_len hp
          rw [show (s.extract k s.size).data.toList.length = (s.extract k s.size).size by simp, ext_size'] at hp2
          simp at hp2
          have he := end_le s k (by omega)
          unfold endI at he
          split at h
          · simp only [Except.error.injEq] at h; omega
          · exact next_err F _ (by omega) (by omega) h
        · cases h
theorem read_facts {s : ByteArray} : ∀ (F k : Nat) (acc : List (Wd × Nat)), k ≤ s.size → s.size < F + k →
    (∀ a e, readV s F k acc = .error (a, e) → (e = 30 ∨ e = 52) ∧ a ≤ s.size) ∧ (∀ l, readV s F k acc = .ok l → l.length + k ≤ acc.length + s.size)
  | 0, k, _, h1, h2 => by omega
  | F + 1, k, acc, h1, h2 => by
    cases hn : nextV s (s.size + 1) k with
    | error a =>
      rw [read_err hn]
      refine ⟨fun b e h => ?_, fun l h => (by cases h)⟩
      simp only [Except.error.injEq, Prod.mk.injEq] at h
      obtain ⟨rfl, rfl⟩ := h
      exact ⟨.inl rfl, next_err _ _ h1 (by omega) hn⟩
    | ok o =>
      cases o with
      | none =>
        rw [read_done hn]
        refine ⟨fun b e h => (by cases h), fun l h => ?_⟩
        simp only [Except.ok.injEq] at h
        subst h; omega
      | some a =>
        have ha := next_le _ _ hn
        cases hw : wordV s a with
        | error e =>
          rw [read_bad hn hw]
          refine ⟨fun b e' h => ?_, fun l h => (by cases h)⟩
          simp only [Except.error.injEq, Prod.mk.injEq] at h
          obtain ⟨rfl, rfl⟩ := h
          exact ⟨word_err hw, by omega⟩
        | ok tk =>
          obtain ⟨t, k'⟩ := tk
          have hl := word_le ha.2 hw
          rw [read_step hn hw]
          have ih := read_facts F k' (acc ++ [(t, a)]) hl.2 (by omega)
          refine ⟨ih.1, fun l h => ?_⟩
          have := ih.2 l h
          simp at this
          omega

theorem tok_err {s : ByteArray} {x : Nat × Int} (h1 : ¬ 262144 < s.size) (h : readV s (s.size + 1) 0 [] = .error x) : tokV s = .error x := by unfold tokV; rw [if_neg h1, h]
theorem tok_ok {s : ByteArray} {l : List (Wd × Nat)} (h1 : ¬ 262144 < s.size) (h : readV s (s.size + 1) 0 [] = .ok l) (hl : ¬ 65536 < l.length) : tokV s = .ok (l ++ [(⟨8, noB, noB⟩, s.size)]) := by unfold tokV; rw [if_neg h1, h]; simp only; rw [if_neg hl]

/-- How Tokens ends. -/
def TokR (w : World) : Except (Nat × Int) (List (Wd × Nat)) → Ending → World → Prop
  | .error (a, e), en, _ => en = .returned (.tuple #[.slice none 0 0, .int .i64 (a : Int), .int .i64 e])
  | .ok l, en, w' => ∃ v, en = .returned (.tuple #[v, .int .i64 0, .int .i64 0]) ∧ w'.ownsRow w.heap.size 56 4 v l.length (tkCells l)
theorem own_base {w : World} {b b' e size n : Nat} {v : Value} {xs : List Value} (h : w.ownsRow b e size v n xs) (hb : b' ≤ b) : w.ownsRow b' e size v n xs := by
  obtain ⟨h1, h2⟩ := h
  refine ⟨h1, ?_⟩
  rcases h2 with h2 | ⟨g, cap, cur, hv, hg, r⟩
  · exact .inl h2
  · exact .inr ⟨g, cap, cur, hv, by omega, r⟩

set_option maxRecDepth 100000 in
set_option maxHeartbeats 4000000 in
theorem tokens_any (s : ByteArray) (ao : Option Addr) (cap : Nat) (w : World) (hs : s.size ≤ 65536) (hm : MaxAt w)
    (hcv : Sem.run Tryz.prog (convert 52 9 (.slice ao s.size cap)) w = .ok (.string s) w) :
    Calls Tryz.prog 22 #[.slice ao s.size cap] w fun en w' => Below w.heap.size w w' ∧ TokR w (tokV s) en w' := by
  have hi : ¬ (262144 : Int) < (s.size : Int) := by omega
  have cr := read_any s w (by omega) hm
  have hf := read_facts (s := s) (s.size + 1) 0 [] (Nat.zero_le _) (by omega)
  have CR := hide cr
  have HF := hide hf
  clear cr hf hm
  go_enter Tryz.func22, Tryz.ntmps22
  go_wp2_with fail
  refine (CR.out).mono ?_
  rintro e w1 ⟨hb1, hr⟩
  cases hv : readV s (s.size + 1) 0 [] with
  | error x =>
    obtain ⟨a, er⟩ := x
    rw [hv] at hr
    obtain rfl : e = _ := hr
    have hx := (HF.out).1 a er hv
    have htk : tokV s = .error (a, er) := tok_err (by omega) hv
    have hne : (er == 0) = false := by rw [beq_eq_false_iff_ne]; omega
    have hne' : (er != 0) = true := by rw [bne, hne]; rfl
    have HTK := hide htk
    clear CR HF hv htk hx
    go_wp2_with fail
    go_quiet (fail)
    go_wp2_with fail
    go_ret3
    exact ⟨bdN (hb1.alloc hb1.size _) _, by rw [HTK.out]; rfl⟩
  | ok l =>
    rw [hv] at hr
    obtain ⟨v, rfl, hown⟩ := hr
    have hl := (HF.out).2 l hv
    simp at hl
    have htk : tokV s = .ok (l ++ [(⟨8, noB, noB⟩, s.size)]) := tok_ok (by omega) hv (by omega)
    have HTK := hide htk
    clear CR HF hv htk
    obtain ⟨ao', cap', rfl⟩ : ∃ ao' cap', v = .slice ao' l.length cap' := by
      rcases hown.2 with ⟨hv, h0⟩ | ⟨g, cap, cur, hv, _⟩
      · exact ⟨none, 0, by rw [h0]; exact hv⟩
      · exact ⟨_, _, hv⟩
    have hli : ¬ (65536 : Int) < (l.length : Int) := by omega
    obtain ⟨i0, hi0, hz0, hz1, hz2⟩ := info_parts tk_info
    have b1 : Below w1.heap.size w1 (w1.alloc (.cells #[.int .i64 0, .int .i64 0] 65)) := (Below.refl _ w1).alloc (Nat.le_refl _) _
    have b2 := b1.alloc b1.size (.cells #[.int .i64 8, .int .i64 (s.size : Int), .string ⟨#[]⟩, .string ⟨#[]⟩] 56)
    have own4 := own_below (own_base hown (Nat.le_add_right w.heap.size 3)) b2
    have hbs := hb1.size
    go_wp2_with (at_builtin; refine wpList_append_own _ rfl _ _ 33 rfl w.heap.size 56 i0 _ 4 48 Tryz.underlying33 hi0 hz0 hz1 hz2 rfl (by decide) _ _ _ rfl own4 ⟨w1.heap.size + 1, 0, none⟩ 1 1 [.int .i64 8, .int .i64 (s.size : Int), .string ⟨#[]⟩, .string ⟨#[]⟩] rfl rfl (cell_four_new _ _ _ (by simp) _ _ _ _) (by simp [Value.oneCell']) (by unfold maxLen; omega) (by omega) (by simp; omega) ?_)
    intro v' w5 hown' hgrow _
    have hrow : ∀ i, Value.ownBlock (.slice ao' l.length cap') = some i → w.heap.size ≤ i := fun i hi => (own4.lt i hi).1
    have hb5 : Below w.heap.size w w5 := (hb1.trans (b2.mono hbs)).grown hgrow (by simp; omega) hrow
    rw [show l.length + 1 = (l ++ [((⟨8, ⟨#[]⟩, ⟨#[]⟩⟩ : Wd), s.size)]).length by simp, ← tkCells_snoc l ⟨8, ⟨#[]⟩, ⟨#[]⟩⟩ s.size] at hown'
    clear hgrow own4 b1 b2 hown
    go_wp2_with fail
    go_ret3
    exact ⟨hb5, by rw [HTK.out]; exact ⟨v', rfl, hown'⟩⟩

end Go.Proofs.YtmnmpfcfdopjnaaGreatDoor

/- Words from a place on are those of the text from there on. -/
namespace Go.Proofs.YtmnmpfcfdopjnaaGreatDoor
open Go.RowKit

theorem bt_out {s : ByteArray} {k : Nat} (h : s.size ≤ k) : btT s k = 0 := by
  unfold btT
  rw [List.getD, List.getElem?_eq_none (by simpa using h)]; rfl
theorem bt_sh (s : ByteArray) (a j : Nat) : btT (s.extract a s.size) j = btT s (a + j) := by
  by_cases h : a + j < s.size
  · exact bt_ext h
  · rw [bt_out (by omega : s.size ≤ a + j), bt_out (by rw [ext_size']; omega)]
theorem ext_sh (s : ByteArray) (a j : Nat) : (s.extract a s.size).extract j (s.extract a s.size).size = s.extract (a + j) s.size := by
  apply WideShapes.bytes_inj
  simp only [ByteArray.data_extract, Array.toList_extract, List.extract, ext_size']
  rw [List.drop_take, List.drop_drop, List.take_take]
  congr 1
  omega
theorem hex_sh (s : ByteArray) (a j : Nat) : hexV (s.extract a s.size) j = hexV s (a + j) := by
  unfold hexV
  rw [ext_sh, bt_sh s a j, bt_sh s a (j + 1), ext_size', Nat.add_assoc a j 1]
  have e1 : (j < s.size - a ∧ btT s (a + j) = 92) ↔ (a + j < s.size ∧ btT s (a + j) = 92) := by constructor <;> (rintro ⟨h, h'⟩; exact ⟨by omega, h'⟩)
  have e2 : s.size - a - (j + 1) = s.size - (a + (j + 1)) := by omega
  by_cases hc : a + j < s.size ∧ btT s (a + j) = 92
  · rw [if_neg (by rw [e1]; exact not_not_intro hc), if_neg (not_not_intro hc), e2]
    have e3 : (s.size - a ≤ j + 1 ∨ leT (btT s (a + (j + 1))) = true) ↔ (s.size ≤ a + (j + 1) ∨ leT (btT s (a + (j + 1))) = true) := by
      constructor <;> (rintro (h | h) <;> first | exact .inl (by omega) | exact .inr h)
    simp only [e3]
  · rw [if_pos (by rw [e1]; exact hc), if_pos hc]
theorem id_sh (s : ByteArray) (a j : Nat) : idP (s.extract a s.size) j = idP s (a + j) := by
  unfold idP
  rw [hex_sh, bt_sh, ext_size']
  have e : ((hexV s (a + j)).2 = 0 ∧ j < s.size - a ∧ inT (btT s (a + j)) = true) ↔ ((hexV s (a + j)).2 = 0 ∧ a + j < s.size ∧ inT (btT s (a + j)) = true) := by
    constructor <;> (rintro ⟨h, h', h''⟩; exact ⟨h, by omega, h''⟩)
  simp only [e]
theorem beg_sh (s : ByteArray) (a j : Nat) : begV (s.extract a s.size) j = begV s (a + j) := by
  unfold begV
  rw [ext_sh]
  simp only [hex_sh, bt_sh, ext_size']
  split
  · rfl
  · generalize (Lib.hasPrefix (s.extract (a + j) s.size).data.toList [45]).toNat = b
    rw [Nat.add_assoc]
    have : decide (j + b < s.size - a) = decide (a + (j + b) < s.size) := by
      by_cases h : a + (j + b) < s.size
      · rw [decide_eq_true h, decide_eq_true (by omega)]
      · rw [decide_eq_false h, decide_eq_false (by omega)]
    rw [this]
theorem esc_sh (s : ByteArray) (a j : Nat) : escV (s.extract a s.size) j = escV s (a + j) := by
  unfold escV
  rw [ext_sh, hex_sh, bt_sh, ext_size', Nat.add_assoc]
  by_cases h : s.size ≤ a + (j + 1)
  · rw [if_pos h, if_pos (by omega)]
  · rw [if_neg h, if_neg (by omega)]
theorem qu_sh (s : ByteArray) (q : UInt8) (a j : Nat) : quP (s.extract a s.size) q j = quP s q (a + j) := by
  unfold quP
  rw [esc_sh, bt_sh, ext_size']
  have e3 : (s.size - a ≤ j ∨ leT (btT s (a + j)) = true) ↔ (s.size ≤ a + j ∨ leT (btT s (a + j)) = true) := by
    by_cases ha : s.size ≤ a
    · exact ⟨fun _ => .inl (by omega), fun _ => .inl (by omega)⟩
    · constructor <;> (rintro (h | h) <;> first | exact .inl (by omega) | exact .inr h)
  simp only [e3]
theorem isAt_sh (s : ByteArray) (a j : Nat) (c : UInt8) : isAt (s.extract a s.size) j c = isAt s (a + j) c := by
  unfold isAt
  rw [bt_sh, ext_size']
  by_cases h : a + j < s.size ∧ btT s (a + j) = c
  · rw [decide_eq_true h, decide_eq_true ⟨by omega, h.2⟩]
  · rw [decide_eq_false h, decide_eq_false (fun h' => h ⟨by omega, h'.2⟩)]

/-- Fuel beyond what is needed changes nothing. -/
theorem mean_fuel {n : Nat} {p : Nat → Option (ByteArray × Nat)} (hp : ∀ k m l, k ≤ n → p k = some (m, l) → k + l ≤ n) : ∀ (F F' k : Nat) (acc : List UInt8), k ≤ n → n < F + k → n < F' + k → mean p F k acc = mean p F' k acc
  | 0, _, k, _, h, h1, _ => by omega
  | _ + 1, 0, k, _, h, _, h2 => by omega
  | F + 1, F' + 1, k, acc, h, h1, h2 => by
    cases hpk : p k with
    | none => rw [mean_none hpk, mean_none hpk]
    | some ml =>
      obtain ⟨m, l⟩ := ml
      by_cases hl : l = 0
      · subst hl; rw [mean_done hpk, mean_done hpk]
      · by_cases h0 : m.data.toList = [0]
        · rw [mean_zero hpk hl h0, mean_zero hpk hl h0]
        · rw [mean_step hpk hl h0, mean_step hpk hl h0]
          have := hp k m l h hpk
          exact mean_fuel hp F F' (k + l) _ this (by omega) (by omega)
theorem mean_sh {p p' : Nat → Option (ByteArray × Nat)} {a : Nat} (hp : ∀ j, p' j = p (a + j)) : ∀ (F j : Nat) (acc : List UInt8), mean p F (a + j) acc = (mean p' F j acc).map fun x => (x.1, a + x.2)
  | 0, _, _ => rfl
  | F + 1, j, acc => by
    cases hpk : p (a + j) with
    | none => rw [mean_none hpk, mean_none ((hp j).trans hpk)]; rfl
    | some ml =>
      obtain ⟨m, l⟩ := ml
      have hpk' := (hp j).trans hpk
      by_cases hl : l = 0
      · subst hl; rw [mean_done hpk, mean_done hpk']; rfl
      · by_cases h0 : m.data.toList = [0]
        · rw [mean_zero hpk hl h0, mean_zero hpk' hl h0]; rfl
        · rw [mean_step hpk hl h0, mean_step hpk' hl h0, Nat.add_assoc]
          exact mean_sh hp F (j + l) _
/-- The same answer, its place further on. -/
def shE (a : Nat) : Except Int (ByteArray × Nat) → Except Int (ByteArray × Nat)
  | .error e => .error e
  | .ok (t, k) => .ok (t, a + k)
def shW (a : Nat) : Except Int (Wd × Nat) → Except Int (Wd × Nat)
  | .error e => .error e
  | .ok (t, k) => .ok (t, a + k)
theorem meanV_sh (s : ByteArray) (lim a j : Nat) {p p' : Nat → Option (ByteArray × Nat)} (hp : ∀ j, p' j = p (a + j)) (hb : ∀ k m l, k ≤ s.size → p k = some (m, l) → k + l ≤ s.size) (haj : a + j ≤ s.size) : meanV s lim p (a + j) = shE a (meanV (s.extract a s.size) lim p' j) := by
  unfold meanV
  rw [mean_sh hp, ext_size']
  have hb' : ∀ k m l, k ≤ s.size - a → p' k = some (m, l) → k + l ≤ s.size - a := fun k m l hk h => by
    have := hb (a + k) m l (by omega) ((hp k).symm.trans h)
    omega
  rw [mean_fuel hb' (s.size + 1) (s.size - a + 1) j [] (by omega) (by omega) (by omega)]
  cases mean p' (s.size - a + 1) j [] with
  | none => rfl
  | some x =>
    obtain ⟨r, k⟩ := x
    simp only [Option.map]
    split <;> rfl
theorem ident_sh (s : ByteArray) (a j : Nat) (h : a + j ≤ s.size) : identV s (a + j) = shE a (identV (s.extract a s.size) j) :=
  meanV_sh s 64 a j (fun j => by rw [id_sh]) (fun k m l hk hp => by simp only [Option.some.injEq] at hp; have := id_le s k hk; rw [hp] at this; exact this) h
theorem word_sh (s : ByteArray) (a j : Nat) (h : a + j < s.size) : wordV s (a + j) = shW a (wordV (s.extract a s.size) j) := by
  have hsc := tscan_le (s.extract (a + j) s.size)
  rw [ext_size'] at hsc
  unfold wordV
  rw [ext_sh, beg_sh, bt_sh]
  split
  · generalize scanV (s.extract (a + j) s.size) = n at *
    unfold numV
    have hx : (s.extract a s.size).extract j (j + n) = s.extract (a + j) (a + j + n) := by
      apply WideShapes.bytes_inj
      simp only [ByteArray.data_extract, Array.toList_extract, List.extract]
      rw [List.drop_take, List.drop_drop, List.take_take]
      congr 1
      omega
    rw [isAt_sh, beg_sh, hx, Nat.add_assoc, ident_sh s a (j + n) (by omega)]
    split
    · rfl
    · split
      · cases identV (s.extract a s.size) (j + n) with
        | error e => rfl
        | ok x => rfl
      · rfl
  · split
    · unfold nameV
      rw [ident_sh s a j (by omega)]
      cases identV (s.extract a s.size) j with
      | error e => rfl
      | ok x =>
        obtain ⟨t, k⟩ := x
        simp only [shE]
        rw [isAt_sh]
        split <;> rfl
    · split
      · unfold quotV
        rw [bt_sh, Nat.add_assoc, meanV_sh s 8192 a (j + 1) (p' := quP (s.extract a s.size) (btT s (a + j))) (fun i => qu_sh s _ a i) (fun k m l _ hp => (qu_le s _ k hp).1) (by omega)]
        cases meanV (s.extract a s.size) 8192 (quP (s.extract a s.size) (btT s (a + j))) (j + 1) with
        | error e => rfl
        | ok x => rfl
      · split
        · rfl
        · rfl

end Go.Proofs.YtmnmpfcfdopjnaaGreatDoor

/- All words, by what is read one behind the other. -/
namespace Go.Proofs.YtmnmpfcfdopjnaaGreatDoor
open Go.RowKit

theorem pre_two {s : ByteArray} {k : Nat} {p : List UInt8} (hp : Lib.hasPrefix (s.extract k s.size).data.toList p = true) : k + p.length ≤ s.size ∨ p = [] := by
  have h := pre_len hp
  rw [show (s.extract k s.size).data.toList.length = (s.extract k s.size).size by simp, ext_size'] at h
  cases p with
  | nil => exact .inr rfl
  | cons c l => left; simp at h ⊢; omega
theorem next_fuel {s : ByteArray} : ∀ (F F' k : Nat), k ≤ s.size → s.size < F + k → s.size < F' + k → nextV s F k = nextV s F' k
  | 0, _, k, h, h1, _ => by omega
  | _ + 1, 0, k, h, _, h2 => by omega
  | F + 1, F' + 1, k, h, h1, h2 => by
    by_cases hk : s.size ≤ k
    · rw [next_end hk, next_end hk]
    · cases hb : blT (btT s k)
      · cases hc : Lib.hasPrefix (s.extract k s.size).data.toList [47, 42]
        · rw [next_word (by omega) hb hc, next_word (by omega) hb hc]
        · rw [next_open (by omega) hb hc, next_open (by omega) hb hc]
          have h2' : k + 2 ≤ s.size := (pre_two hc).elim (fun h => by simpa using h) (fun h => by cases h)
          have he := end_le s k h2'
          split
          · rfl
          · exact next_fuel F F' _ (by omega) (by omega) (by omega)
      · rw [next_blank (by omega) hb, next_blank (by omega) hb]
        exact next_fuel F F' _ (by omega) (by omega) (by omega)
def shN (a : Nat) : Except Nat (Option Nat) → Except Nat (Option Nat)
  | .error k => .error (a + k)
  | .ok none => .ok none
  | .ok (some k) => .ok (some (a + k))
theorem next_sh (s : ByteArray) (a : Nat) : ∀ (F j : Nat), nextV s F (a + j) = shN a (nextV (s.extract a s.size) F j)
  | 0, j => rfl
  | F + 1, j => by
    by_cases hk : s.size ≤ a + j
    · rw [next_end hk, next_end (by rw [ext_size']; omega)]; rfl
    · have hj : j < (s.extract a s.size).size := by rw [ext_size']; omega
      have eb := bt_sh s a j
      have ec := ext_sh s a j
      cases hb : blT (btT s (a + j))
      · cases hc : Lib.hasPrefix (s.extract (a + j) s.size).data.toList [47, 42]
        · rw [next_word (by omega) hb hc, next_word hj (by rw [eb]; exact hb) (by rw [ec]; exact hc)]; rfl
        · rw [next_open (by omega) hb hc, next_open hj (by rw [eb]; exact hb) (by rw [ec]; exact hc)]
          have ei : endI (s.extract a s.size) j = endI s (a + j) := by unfold endI; rw [ext_sh, Nat.add_assoc]
          rw [ei]
          split
          · rfl
          · have := next_sh s a F (j + 2 + ((endI s (a + j)).toNat + 2))
            rw [← this]
            congr 1
            omega
      · rw [next_blank (by omega) hb, next_blank hj (by rw [eb]; exact hb), Nat.add_assoc]
        exact next_sh s a F (j + 1)
theorem next_at {s : ByteArray} : ∀ (F k : Nat) {a : Nat}, nextV s F k = .ok (some a) → blT (btT s a) = false ∧ Lib.hasPrefix (s.extract a s.size).data.toList [47, 42] = false
  | 0, _, _, h => by cases h
  | F + 1, k, a, h => by
    unfold nextV at h
    split at h
    · cases h
    · split at h
      · exact next_at F _ h
      · split at h
        · split at h
          · cases h
          · exact next_at F _ h
        · rename_i h1 h2
          simp only [Except.ok.injEq, Option.some.injEq] at h
          subst h
          exact ⟨by simpa using h1, by simpa using h2⟩

/-- These words are read from a place on. -/
inductive Rds (s : ByteArray) : Nat → List (Wd × Nat) → Prop
  | done {k : Nat} : nextV s (s.size + 1) k = .ok none → Rds s k []
  | step {k a k' : Nat} {t : Wd} {l : List (Wd × Nat)} : nextV s (s.size + 1) k = .ok (some a) → wordV s a = .ok (t, k') → Rds s k' l → Rds s k ((t, a) :: l)
theorem reads_of {s : ByteArray} : ∀ (F k : Nat) (acc : List (Wd × Nat)) {r : List (Wd × Nat)}, readV s F k acc = .ok r → ∃ l, r = acc ++ l ∧ Rds s k l
  | 0, _, _, _, h => by cases h
  | F + 1, k, acc, r, h => by
    cases hn : nextV s (s.size + 1) k with
    | error a => rw [read_err hn] at h; cases h
    | ok o =>
      cases o with
      | none =>
        rw [read_done hn] at h
        simp only [Except.ok.injEq] at h
        exact ⟨[], by simp [h], .done hn⟩
      | some a =>
        cases hw : wordV s a with
        | error e => rw [read_bad hn hw] at h; cases h
        | ok tk =>
          obtain ⟨t, k'⟩ := tk
          rw [read_step hn hw] at h
          obtain ⟨l, hl, hr⟩ := reads_of F k' _ h
          exact ⟨(t, a) :: l, by simp [hl], .step hn hw hr⟩
theorem Rds.le {s : ByteArray} {k : Nat} {l : List (Wd × Nat)} (h : Rds s k l) : l.length + k ≤ s.size ∨ l = [] := by
  induction h with
  | done => exact .inr rfl
  | @step k a k' t l hn hw _ ih =>
    left
    have h1 := next_le _ _ hn
    have h2 := word_le h1.2 hw
    rcases ih with ih | ih
    · simp; omega
    · subst ih; simp; omega
theorem Rds.read {s : ByteArray} {k : Nat} {l : List (Wd × Nat)} (h : Rds s k l) : ∀ (F : Nat) (acc : List (Wd × Nat)), s.size < F + k → readV s F k acc = .ok (acc ++ l) ∨ F = 0 := by
  induction h with
  | done hn =>
    intro F acc hF
    cases F with
    | zero => exact .inr rfl
    | succ F => left; rw [read_done hn]; simp
  | @step k a k' t l hn hw _ ih =>
    intro F acc hF
    have h1 := next_le _ _ hn
    have h2 := word_le h1.2 hw
    cases F with
    | zero => exact .inr rfl
    | succ F =>
      left
      rw [read_step hn hw]
      rcases ih F (acc ++ [(t, a)]) (by omega) with h | h
      · rw [h]; simp
      · omega
theorem tok_of_reads {s : ByteArray} {l : List (Wd × Nat)} (hs : s.size ≤ 65536) (h : Rds s 0 l) : tokV s = .ok (l ++ [(⟨8, noB, noB⟩, s.size)]) := by
  have h1 : readV s (s.size + 1) 0 [] = .ok l := by
    rcases h.read (s.size + 1) [] (by omega) with h | h
    · simpa using h
    · omega
  exact tok_ok (by omega) h1 (h.le.elim (fun h => by omega) (fun h => by subst h; simp))
theorem reads_of_tok {s : ByteArray} {l : List (Wd × Nat)} (hs : s.size ≤ 65536) (h : tokV s = .ok l) : ∃ r, l = r ++ [(⟨8, noB, noB⟩, s.size)] ∧ Rds s 0 r := by
  cases hr : readV s (s.size + 1) 0 [] with
  | error x => rw [tok_err (by omega) hr] at h; cases h
  | ok r =>
    have hl := (read_facts (s := s) (s.size + 1) 0 [] (Nat.zero_le _) (by omega)).2 r hr
    simp at hl
    rw [tok_ok (by omega) hr (by omega)] at h
    simp only [Except.ok.injEq] at h
    obtain ⟨l', hl', hR⟩ := reads_of _ _ _ hr
    simp at hl'
    exact ⟨r, h.symm, by rw [hl']; exact hR⟩
theorem Rds.from {s : ByteArray} {k a : Nat} {t : Wd} {l : List (Wd × Nat)} (h : Rds s k ((t, a) :: l)) : Rds s a ((t, a) :: l) := by
  cases h with
  | step hn hw hr =>
    have h1 := next_le _ _ hn
    have h2 := next_at _ _ hn
    exact .step (next_word h1.2 h2.1 h2.2) hw hr
/-- Words whose places are counted from another place on. -/
def sub (a : Nat) (l : List (Wd × Nat)) : List (Wd × Nat) := l.map fun x => (x.1, x.2 - a)
theorem Rds.shift {s : ByteArray} {a : Nat} (ha : a ≤ s.size) {k : Nat} {l : List (Wd × Nat)} (h : Rds s k l) : a ≤ k → k ≤ s.size → Rds (s.extract a s.size) (k - a) (sub a l) := by
  have hz := ext_size' s a
  have nx : ∀ k, a ≤ k → k ≤ s.size → nextV s (s.size + 1) k = shN a (nextV (s.extract a s.size) ((s.extract a s.size).size + 1) (k - a)) := fun k h1 h2 => by
    have := next_sh s a (s.size + 1) (k - a)
    rw [show a + (k - a) = k by omega] at this
    rw [this, next_fuel (s := s.extract a s.size) (s.size + 1) ((s.extract a s.size).size + 1) (k - a) (by omega) (by omega) (by omega)]
  induction h with
  | done hn =>
    intro h1 h2
    rw [nx _ h1 h2] at hn
    refine .done ?_
    cases hx : nextV (s.extract a s.size) ((s.extract a s.size).size + 1) (_ - a) with
    | error e => rw [hx] at hn; cases hn
    | ok o =>
      cases o with
      | none => rfl
      | some b => rw [hx] at hn; cases hn
  | @step k b k' t l hn hw _ ih =>
    intro h1 h2
    have hb := next_le _ _ hn
    have hl := word_le hb.2 hw
    rw [nx _ h1 h2] at hn
    have hx : nextV (s.extract a s.size) ((s.extract a s.size).size + 1) (k - a) = .ok (some (b - a)) := by
      cases hx : nextV (s.extract a s.size) ((s.extract a s.size).size + 1) (k - a) with
      | error e => rw [hx] at hn; cases hn
      | ok o =>
        cases o with
        | none => rw [hx] at hn; cases hn
        | some c =>
          rw [hx] at hn
          simp only [shN, Except.ok.injEq, Option.some.injEq] at hn
          rw [show c = b - a by omega]
    have hy : wordV (s.extract a s.size) (b - a) = .ok (t, k' - a) := by
      have := word_sh s a (b - a) (by omega)
      rw [show a + (b - a) = b by omega, hw] at this
      cases hz : wordV (s.extract a s.size) (b - a) with
      | error e => rw [hz] at this; cases this
      | ok x =>
        obtain ⟨t', c⟩ := x
        rw [hz] at this
        simp only [shW, Except.ok.injEq, Prod.mk.injEq] at this
        obtain ⟨rfl, e2⟩ := this
        rw [show c = k' - a by omega]
    exact .step hx hy (ih (by omega) hl.2)

end Go.Proofs.YtmnmpfcfdopjnaaGreatDoor

/- A byte's number to the base 16, as the library writes it. -/
namespace Go.Proofs.YtmnmpfcfdopjnaaGreatDoor
open Go.RowKit

/-- The cell of the library's table that is read for 16. -/
def TZ (w : World) : Prop := w.cell? ⟨8, 15, none⟩ = some (.int .u8 4)
theorem TZ.below {w w' : World} (h : TZ w) (hb : Below w.heap.size w w') : TZ w' := by
  have hl : 8 < w.heap.size := World.block_lt_of_cell? _ _ h
  exact (hb.cell hl).trans h

set_option maxRecDepth 100000 in
set_option maxHeartbeats 1000000 in
theorem tz_16 (w : World) (h : TZ w) : Calls Tryz.prog 132 #[.int .u64 16] w fun e w' => e = .returned (.int .i64 4) ∧ w' = w := by
  have h' : w.cell? ⟨8, 15, none⟩ = some (.int .u8 4) := h
  have e1 : bits BinOp.and IntKind.u64 16 (IntKind.u64.wrap (-16)) = 16 := by decide
  go_enter Tryz.func132, Tryz.ntmps132
  go_wp2
  go_ret
  exact ⟨rfl, rfl⟩

set_option maxRecDepth 100000 in
set_option maxHeartbeats 1000000 in
theorem tzu_16 (w : World) (h : TZ w) : Calls Tryz.prog 120 #[.int .u64 16] w fun e w' => e = .returned (.int .i64 4) ∧ w' = w := by
  go_enter Tryz.func120, Tryz.ntmps120
  go_wp2_with fail
  refine (tz_16 _ h).mono ?_
  rintro e w1 ⟨rfl, rfl⟩
  go_wp2_with fail
  go_ret
  exact ⟨rfl, rfl⟩

set_option maxRecDepth 100000 in
set_option maxHeartbeats 1000000 in
theorem pow2_16 (w : World) : Calls Tryz.prog 119 #[.int .i64 16] w fun e w' => e = .returned (.bool true) ∧ w' = w := by
  have e1 : bits BinOp.and IntKind.i64 16 15 = 0 := by decide
  go_enter Tryz.func119, Tryz.ntmps119
  go_wp2_with fail
  go_ret
  exact ⟨rfl, rfl⟩

theorem ba_ext' {a b : ByteArray} (h : a.data.toList = b.data.toList) : a = b := by
  obtain ⟨⟨x⟩⟩ := a
  obtain ⟨⟨y⟩⟩ := b
  simp at h
  subst h
  rfl
/-- A digit to the base 16. -/
def hx (d : Nat) : UInt8 := if d < 10 then UInt8.ofNat (48 + d) else UInt8.ofNat (87 + d)
/-- A byte's number to the base 16. -/
def hexs (c : Nat) : List UInt8 := if c < 16 then [hx c] else [hx (c / 16), hx (c % 16)]
/-- The library's digits. -/
def DIG : ByteArray := ⟨#[48, 49, 50, 51, 52, 53, 54, 55, 56, 57, 97, 98, 99, 100, 101, 102, 103, 104, 105, 106, 107, 108, 109, 110, 111, 112, 113, 114, 115, 116, 117, 118, 119, 120, 121, 122]⟩
set_option maxRecDepth 100000 in
theorem dig_at (d : Nat) (h : d < 16) (w : World) : Sem.run Tryz.prog (Instr.index 9 (.string ⟨#[48, 49, 50, 51, 52, 53, 54, 55, 56, 57, 97, 98, 99, 100, 101, 102, 103, 104, 105, 106, 107, 108, 109, 110, 111, 112, 113, 114, 115, 116, 117, 118, 119, 120, 121, 122]⟩) (.int .u64 (d : Int))) w = .ok (.int .u8 ((hx d).toNat : Int)) w := by
  obtain rfl | rfl | rfl | rfl | rfl | rfl | rfl | rfl | rfl | rfl | rfl | rfl | rfl | rfl | rfl | rfl : d = 0 ∨ d = 1 ∨ d = 2 ∨ d = 3 ∨ d = 4 ∨ d = 5 ∨ d = 6 ∨ d = 7 ∨ d = 8 ∨ d = 9 ∨ d = 10 ∨ d = 11 ∨ d = 12 ∨ d = 13 ∨ d = 14 ∨ d = 15 := by omega
  all_goals rfl
theorem u64_low (c : Nat) (hc : c < 256) : bits .and .u64 (c : Int) 15 = ((c % 16 : Nat) : Int) := by
  have h := bits_and_u64_nat c 15 (by omega) (by omega)
  rw [show (15 : Nat) = 2 ^ 4 - 1 from rfl, Nat.and_two_pow_sub_one_eq_mod] at h
  exact h
theorem nums_one (a : UInt8) : strOfNums [(a.toNat : Int)] = ⟨[a].toArray⟩ := by
  have h : UInt8.ofNat ((a.toNat : Int)).toNat = a := by simp
  show (⟨#[UInt8.ofNat ((a.toNat : Int)).toNat]⟩ : ByteArray) = _
  rw [h]
theorem nums_two (a b : UInt8) : strOfNums [(a.toNat : Int), (b.toNat : Int)] = ⟨[a, b].toArray⟩ := by
  have h : UInt8.ofNat ((a.toNat : Int)).toNat = a := by simp
  have k : UInt8.ofNat ((b.toNat : Int)).toNat = b := by simp
  show (⟨#[UInt8.ofNat ((a.toNat : Int)).toNat, UInt8.ofNat ((b.toNat : Int)).toNat]⟩ : ByteArray) = _
  rw [h, k]
theorem cell_put {w : World} {b i : Nat} {cs : Array Value} {T : TypeId} (v : Value) (h : w.heap[b]? = some (.cells cs T (0, 0))) : (w.setCell ⟨b, i, none⟩ v).heap[b]? = some (.cells (cs.set! i v) T (0, 0)) := by
  simp [World.setCell, Array.getElem?_modify, h]

set_option maxRecDepth 100000 in
set_option maxHeartbeats 2000000 in
theorem bits_16 (c : Nat) (hc : c < 256) (w : World) (h : TZ w) :
    Calls Tryz.prog 93 #[.slice none 0 0, .int .u64 (c : Int), .int .i64 16, .bool false, .bool false] w fun e w' => e = .returned (.tuple #[.slice none 0 0, .string ⟨(hexs c).toArray⟩]) ∧ Below w.heap.size w w' := by
  go_enter Tryz.func93, Tryz.ntmps93
  go_wp2_with fail
  refine (pow2_16 _).mono ?_
  rintro e w1 ⟨rfl, rfl⟩
  go_wp2_with fail
  refine (tzu_16 _ (h.below ((Below.refl _ w).alloc (Nat.le_refl _) _))).mono ?_
  rintro e w1 ⟨rfl, rfl⟩
  obtain ⟨d, hd⟩ : ∃ d, d = c % 16 := ⟨_, rfl⟩
  obtain ⟨q, hq⟩ : ∃ q, q = c / 16 := ⟨_, rfl⟩
  have hand := u64_low c hc
  rw [← hd] at hand
  have hdq : (c : Int) / 16 = (q : Int) := by omega
  have hq16 : q < 16 := by omega
  have HD := hide hd
  have HQ := hide hq
  have dd := dig_at d (by omega)
  have dq := dig_at q (by omega)
  clear hd hq
  have hz : Tryz.zeroCells143.size = 65 := by kernel_rfl
  have hb0 : Below w.heap.size w (w.alloc (.cells Tryz.zeroCells143 143)) := (Below.refl _ w).alloc (Nat.le_refl _) _
  have hh0 : (w.alloc (.cells Tryz.zeroCells143 143)).heap[w.heap.size]? = some (.cells Tryz.zeroCells143 143 (0, 0)) := heap_alloc_new w _
  have hz64 : Tryz.zeroCells143[64]? = some (.int .u8 0) := by kernel_rfl
  have hz63 : Tryz.zeroCells143[63]? = some (.int .u8 0) := by kernel_rfl
  go_wp2_with fail
  generalize hw0 : w.alloc (.cells Tryz.zeroCells143 143) = w0 at *
  go_loopw [1, 13] (fun u i wr => (u = .int .u64 (c : Int) ∧ i = .int .i64 65 ∧ wr = w0) ∨ (16 ≤ c ∧ u = .int .u64 (q : Int) ∧ i = .int .i64 64 ∧ wr = w0.setCell ⟨w.heap.size, 64, none⟩ (.int .u8 ((hx d).toNat : Int)))) (fun u _ _ => (intOf u).toNat)
  case atStart => exact .inl ⟨rfl, rfl, rfl⟩
  case round =>
    rcases hrel with ⟨rfl, rfl, rfl⟩ | ⟨h16, rfl, rfl, rfl⟩
    · have hfz : wr.frozen? ⟨w.heap.size, 64, none⟩ = false := Lib.frozen_of_heap hh0 64
      have hcl : wr.cell? ⟨w.heap.size, 64, none⟩ = some (.int .u8 0) := by rw [Lib.cell_of_heap hh0]; exact hz64
      by_cases h16 : 16 ≤ c
      · have h16i : (16 : Int) ≤ (c : Int) := by omega
        go_wp2_with fail
        go_round
        case rel => exact .inr ⟨h16, rfl, rfl, trivial⟩
        case measure => simp [intOf]; omega
      · have h16i : ¬ (16 : Int) ≤ (c : Int) := by omega
        obtain rfl : d = c := by have := HD.out; omega
        clear HD HQ hdq hand hz64 hz63
        have hp := cell_put (i := 64) (.int .u8 ((hx d).toNat : Int)) hh0
        have hcv := run_convert_bytes_arg (P := Tryz.prog) (wr.setCell ⟨w.heap.size, 64, none⟩ (.int .u8 ((hx d).toNat : Int))) 52 5 Tryz.underlying52 Tryz.underlying5 w.heap.size 64 1 1 [((hx d).toNat : Int)] rfl (fun i hi => by
          obtain rfl : i = 0 := by omega
          rw [Lib.cell_of_heap hp]
          simp [hz]) 9 Tryz.underlying9
        have hB := hb0.setCell (p := ⟨w.heap.size, 64, none⟩) (Nat.le_refl _) (.int .u8 ((hx d).toNat : Int))
        go_wp2_with fail
        go_ret2
        exact ⟨by rw [nums_one]; unfold hexs; rw [if_pos (by omega)]; rfl, hB⟩
    · have h16i : ¬ (16 : Int) ≤ (q : Int) := by omega
      have hp0 := cell_put (i := 64) (.int .u8 ((hx d).toNat : Int)) hh0
      have hfz : (w0.setCell ⟨w.heap.size, 64, none⟩ (.int .u8 ((hx d).toNat : Int))).frozen? ⟨w.heap.size, 63, none⟩ = false := Lib.frozen_of_heap hp0 63
      have hcl : (w0.setCell ⟨w.heap.size, 64, none⟩ (.int .u8 ((hx d).toNat : Int))).cell? ⟨w.heap.size, 63, none⟩ = some (.int .u8 0) := by
        rw [Lib.cell_of_heap hp0]
        simp only [Array.set!_eq_setIfInBounds]
        rw [Array.getElem?_setIfInBounds_ne (by omega)]
        exact hz63
      have hp := cell_put (i := 63) (.int .u8 ((hx q).toNat : Int)) hp0
      have hB0 := hb0.setCell (p := ⟨w.heap.size, 64, none⟩) (Nat.le_refl _) (.int .u8 ((hx d).toNat : Int))
      generalize w0.setCell ⟨w.heap.size, 64, none⟩ (.int .u8 ((hx d).toNat : Int)) = w1 at *
      have hcv := run_convert_bytes_arg (P := Tryz.prog) (w1.setCell ⟨w.heap.size, 63, none⟩ (.int .u8 ((hx q).toNat : Int))) 52 5 Tryz.underlying52 Tryz.underlying5 w.heap.size 63 2 2 [((hx q).toNat : Int), ((hx d).toNat : Int)] rfl (fun i hi => by
        rw [Lib.cell_of_heap hp]
        obtain rfl | rfl : i = 0 ∨ i = 1 := by omega
        · simp [hz]
        · simp [hz]) 9 Tryz.underlying9
      have hB := hB0.setCell (p := ⟨w.heap.size, 63, none⟩) (Nat.le_refl _) (.int .u8 ((hx q).toNat : Int))
      have hx2 : hexs c = [hx q, hx d] := by unfold hexs; rw [if_neg (by omega), HQ.out, HD.out]
      have HX := hide hx2
      clear HD HQ hdq hand hz64 hz63 hx2 hp hp0 hh0 hb0 hB0
      go_wp2_with fail
      go_ret2
      exact ⟨by rw [nums_two, HX.out]; rfl, hB⟩

set_option maxRecDepth 100000 in
set_option maxHeartbeats 1000000 in
theorem fmti_16 (c : Nat) (hc : c < 256) (w : World) (h : TZ w) :
    Calls Tryz.prog 61 #[.int .i64 (c : Int), .int .i64 16] w fun e w' => e = .returned (.string ⟨(hexs c).toArray⟩) ∧ Below w.heap.size w w' := by
  have h0 : ¬ (c : Int) < 0 := by omega
  go_enter Tryz.func61, Tryz.ntmps61
  go_wp2_with fail
  refine (bits_16 c hc _ h).mono ?_
  rintro e w1 ⟨rfl, hb⟩
  go_wp2_with fail
  go_ret
  exact ⟨rfl, hb⟩

/-- An escape of a byte's number. -/
def numB (c : UInt8) : ByteArray := ⟨(92 :: (hexs c.toNat ++ [32])).toArray⟩
theorem hexs_len (c : Nat) : (hexs c).length ≤ 2 := by unfold hexs; split <;> simp
theorem numB_size (c : UInt8) : (numB c).size ≤ 4 := by
  have := hexs_len c.toNat
  show (92 :: (hexs c.toNat ++ [32])).toArray.size ≤ 4
  simp; omega

end Go.Proofs.YtmnmpfcfdopjnaaGreatDoor

/- The bytes of names, and what is written for each. -/
namespace Go.Proofs.YtmnmpfcfdopjnaaGreatDoor
open Go.RowKit

def letB (c : UInt8) : Bool := decide ((97 ≤ c.toNat ∧ c.toNat ≤ 122) ∨ (65 ≤ c.toNat ∧ c.toNat ≤ 90) ∨ c.toNat = 95 ∨ 128 ≤ c.toNat)
def dgB (c : UInt8) : Bool := decide (48 ≤ c.toNat ∧ c.toNat ≤ 57)
def ctlB (c : UInt8) : Bool := decide (c.toNat < 32 ∨ c.toNat = 127)
/-- The byte at a place. -/
def bt (s : ByteArray) (k : Nat) : UInt8 := s.data.toList.getD k 0
theorem bt_at {s : ByteArray} {k : Nat} (h : k < s.size) : bt s k = s[k] := by unfold bt; simp [List.getD, h]; rfl
def firB (s : ByteArray) (k : Nat) : Bool := decide (k = 0 ∨ (k = 1 ∧ (bt s 0).toNat = 45))
def zB (s : ByteArray) : Bool := decide (0 ≤ Lib.indexByte s.data.toList 0)
def txtB (s : ByteArray) (lim : Int) : Bool := decide ((s.size : Int) ≤ lim) && !zB s
def nameB (s : ByteArray) : Bool := decide (0 < s.size) && txtB s 64
def lowB (c : UInt8) : ByteArray := ⟨#[if 65 ≤ c.toNat ∧ c.toNat ≤ 90 then c + 32 else c]⟩
def oneB (c : UInt8) : ByteArray := ⟨#[c]⟩
def escB (c : UInt8) : ByteArray := ⟨#[92, c]⟩
def plainB (s : ByteArray) (k : Nat) : Bool := letB (bt s k) || decide ((bt s k).toNat = 45 ∧ 1 < s.size) || (dgB (bt s k) && !firB s k)
def wB (s : ByteArray) (k : Nat) : ByteArray := if plainB s k = true then oneB (bt s k) else if (dgB (bt s k) || ctlB (bt s k)) = true then numB (bt s k) else escB (bt s k)
def qB (s : ByteArray) (k : Nat) : ByteArray := if (bt s k).toNat = 34 ∨ (bt s k).toNat = 92 then escB (bt s k) else if ctlB (bt s k) = true then numB (bt s k) else oneB (bt s k)
theorem wB_size (s : ByteArray) (k : Nat) : (wB s k).size ≤ 8 := by
  have := numB_size (bt s k)
  unfold wB
  split
  · exact Nat.le_of_ble_eq_true rfl
  · split
    · omega
    · exact Nat.le_of_ble_eq_true rfl
theorem qB_size (s : ByteArray) (k : Nat) : (qB s k).size ≤ 8 := by
  have := numB_size (bt s k)
  unfold qB
  split
  · exact Nat.le_of_ble_eq_true rfl
  · split
    · omega
    · exact Nat.le_of_ble_eq_true rfl
theorem eqb (x a : Int) : (x = a ∧ (x == a) = true) ∨ (¬ x = a ∧ (x == a) = false) := by
  by_cases h : x = a
  · exact .inl ⟨h, by simp [h]⟩
  · exact .inr ⟨h, by rw [beq_eq_false_iff_ne]; exact h⟩
theorem ext_one {s : ByteArray} {k : Nat} (h : k < s.size) : s.extract k (k + 1) = oneB s[k] := by
  apply ba_ext'
  have h' : k < s.data.toList.length := by simpa using h
  simp only [ByteArray.data_extract, Array.toList_extract, List.extract, Nat.add_sub_cancel_left, oneB]
  rw [List.drop_eq_getElem_cons h']
  simp
  rfl

set_option maxRecDepth 100000 in
set_option maxHeartbeats 4000000 in
theorem letter_any (c : UInt8) (w : World) : Calls Tryz.prog 100 #[.int .u8 (c.toNat : Int)] w fun e w' => e = .returned (.bool (letB c)) ∧ w' = w := by
  have hlt := c.toNat_lt
  cases hb : letB c
  · have hp := of_decide_eq_false hb
    clear hb
    by_cases h1 : (97 : Int) ≤ (c.toNat : Int) <;> by_cases h2 : (c.toNat : Int) ≤ 122 <;> by_cases h3 : (65 : Int) ≤ (c.toNat : Int) <;> by_cases h4 : (c.toNat : Int) ≤ 90 <;> rcases eqb (c.toNat : Int) 95 with ⟨h5, h5b⟩ | ⟨h5, h5b⟩ <;> by_cases h6 : (128 : Int) ≤ (c.toNat : Int) <;>
    first
    | (exfalso; omega)
    | (clear hp hlt
       go_enter Tryz.func100, Tryz.ntmps100
       go_wp2_with fail
       go_ret
       exact ⟨rfl, rfl⟩)
  · have hp := of_decide_eq_true hb
    clear hb
    by_cases h1 : (97 : Int) ≤ (c.toNat : Int) <;> by_cases h2 : (c.toNat : Int) ≤ 122 <;> by_cases h3 : (65 : Int) ≤ (c.toNat : Int) <;> by_cases h4 : (c.toNat : Int) ≤ 90 <;> rcases eqb (c.toNat : Int) 95 with ⟨h5, h5b⟩ | ⟨h5, h5b⟩ <;> by_cases h6 : (128 : Int) ≤ (c.toNat : Int) <;>
    first
    | (exfalso; omega)
    | (clear hp hlt
       go_enter Tryz.func100, Tryz.ntmps100
       go_wp2_with fail
       go_ret
       exact ⟨rfl, rfl⟩)

end Go.Proofs.YtmnmpfcfdopjnaaGreatDoor

/- What Lower, Is, Name, Write and Quote answer. -/
namespace Go.Proofs.YtmnmpfcfdopjnaaGreatDoor
open Go.RowKit

set_option maxRecDepth 100000 in
theorem rune_low (n : Nat) (h0 : 97 ≤ n) (h1 : n ≤ 122) (w : World) : Sem.run Tryz.prog (convert 21 9 (.int .i32 (n : Int))) w = .ok (.string (oneB (UInt8.ofNat n))) w := by
  obtain ⟨i, hi⟩ : ∃ i, n = 97 + i := ⟨n - 97, by omega⟩
  subst hi
  have h : i < 26 := by omega
  obtain rfl | rfl | rfl | rfl | rfl | rfl | rfl | rfl | rfl | rfl | rfl | rfl | rfl | rfl | rfl | rfl | rfl | rfl | rfl | rfl | rfl | rfl | rfl | rfl | rfl | rfl : i = 0 ∨ i = 1 ∨ i = 2 ∨ i = 3 ∨ i = 4 ∨ i = 5 ∨ i = 6 ∨ i = 7 ∨ i = 8 ∨ i = 9 ∨ i = 10 ∨ i = 11 ∨ i = 12 ∨ i = 13 ∨ i = 14 ∨ i = 15 ∨ i = 16 ∨ i = 17 ∨ i = 18 ∨ i = 19 ∨ i = 20 ∨ i = 21 ∨ i = 22 ∨ i = 23 ∨ i = 24 ∨ i = 25 := by omega
  all_goals rfl
theorem low_in {c : UInt8} (h0 : 65 ≤ c.toNat) (h1 : c.toNat ≤ 90) : lowB c = oneB (UInt8.ofNat (c.toNat + 32)) := by
  unfold lowB oneB
  rw [if_pos ⟨h0, h1⟩, UInt8.ofNat_add, UInt8.ofNat_toNat]
  rfl
theorem low_out {c : UInt8} (h : ¬ (65 ≤ c.toNat ∧ c.toNat ≤ 90)) : lowB c = oneB c := by
  unfold lowB oneB
  rw [if_neg h]

set_option maxRecDepth 100000 in
theorem sl_one {s : ByteArray} {k : Nat} (h : k < s.size) (w : World) : Sem.run Tryz.prog (Instr.slice 9 (.string s) (some (.int .i64 (k : Int))) (some (.int .i64 ((k : Int) + 1))) none) w = .ok (.string (oneB s[k])) w := by
  rw [run_slice_string w 9 s .i64 .i64 (k : Int) ((k : Int) + 1) Tryz.underlying9 (by omega) (by omega) (by omega), ← ext_one h]
  congr 2

set_option maxRecDepth 100000 in
set_option maxHeartbeats 1000000 in
theorem lower1_any (s : ByteArray) (k b : Nat) (w : World) (hk : k < s.size) (hs : s.size ≤ 100000) (h0 : Boxed w b 9 (.string s)) :
    Calls Tryz.prog 73 #[.int .i64 (k : Int), .pointer (some ⟨b, 0, none⟩)] w fun e w' => e = .returned (.string (lowB (bt s k))) ∧ Below w.heap.size w w' := by
  have c0 := h0.cell
  rw [bt_at hk]
  have he := fun w => sl_one hk w
  have hki : (k : Int) < (s.size : Int) := by omega
  by_cases hr : 65 ≤ s[k].toNat ∧ s[k].toNat ≤ 90
  · have h1 : (65 : Int) ≤ (s[k].toNat : Int) := by omega
    have h2 : (s[k].toNat : Int) ≤ 90 := by omega
    have hlo := low_in hr.1 hr.2
    have hrn := rune_low (s[k].toNat + 32) (by omega) (by omega)
    have hca : ((s[k].toNat + 32 : Nat) : Int) = (s[k].toNat : Int) - 65 + 97 := by omega
    rw [hca] at hrn
    have HLO := hide hlo
    clear hr hlo hca he
    go_enter Tryz.func73, Tryz.ntmps73
    go_wp2_with fail
    go_ret
    exact ⟨by rw [HLO.out]; rfl, Below.refl _ _⟩
  · have hlo := low_out hr
    have HLO := hide hlo
    clear hlo
    by_cases h1 : (65 : Int) ≤ (s[k].toNat : Int)
    · have h2 : ¬ (s[k].toNat : Int) ≤ 90 := by omega
      clear hr
      go_enter Tryz.func73, Tryz.ntmps73
      go_wp2_with fail
      go_ret
      exact ⟨by rw [HLO.out]; rfl, Below.refl _ _⟩
    · clear hr
      go_enter Tryz.func73, Tryz.ntmps73
      go_wp2_with fail
      go_ret
      exact ⟨by rw [HLO.out]; rfl, Below.refl _ _⟩

end Go.Proofs.YtmnmpfcfdopjnaaGreatDoor

/- What Lower, Is, Name, Write and Quote answer. -/
namespace Go.Proofs.YtmnmpfcfdopjnaaGreatDoor
open Go.RowKit

theorem boxed_below {w w' : World} {b t : Nat} {v : Value} {B : Nat} (h : Boxed w b t v) (hb : Below B w w') (hl : b < B) : Boxed w' b t v := (hb.block b hl).trans h
/-- A text in small letters. -/
def lowV (s : ByteArray) : ByteArray := ⟨(eb (fun k => lowB (bt s k)) s.size).toArray⟩
def writeV (s : ByteArray) : ByteArray := if nameB s = true then ⟨(eb (wB s) s.size).toArray⟩ else ⟨#[]⟩
def quoteV (s : ByteArray) : ByteArray := if txtB s 8192 = true then ⟨(34 :: (eb (qB s) s.size ++ [34])).toArray⟩ else ⟨#[]⟩
theorem low_size (c : UInt8) : (lowB c).size ≤ 8 := by unfold lowB; exact Nat.le_of_ble_eq_true rfl

set_option maxRecDepth 100000 in
set_option maxHeartbeats 1000000 in
theorem lower_any (s : ByteArray) (w : World) (hs : s.size ≤ 100000) :
    Calls Tryz.prog 53 #[.string s] w fun e w' => e = .returned (.string (lowV s)) ∧ Below w.heap.size w w' := by
  have hbx := Boxed.new w 9 (.string s)
  have hb0 : Below w.heap.size w (w.alloc (.cells #[.string s] 9)) := (Below.refl _ w).alloc (Nat.le_refl _) _
  have c0 := hbx.cell
  have ce := eachByte_any s 73 (.pointer (some ⟨w.heap.size, 0, none⟩)) (fun k => lowB (bt s k)) (w.alloc (.cells #[.string s] 9)) hs (fun k => low_size _) (enters_of Tryz.func73 (by kernel_rfl) rfl)
    (fun k w' hk hb => lower1_any s k w.heap.size w' hk hs (boxed_below hbx hb hbx.lt))
  have CE := hide ce
  clear ce hbx
  go_enter Tryz.func53, Tryz.ntmps53
  go_wp2_with fail
  refine (CE.out).mono ?_
  rintro e w1 ⟨rfl, hb1⟩
  have hB := hb0.trans (hb1.mono hb0.size)
  clear hb1 CE c0
  go_wp2_with fail
  go_ret
  exact ⟨rfl, hB⟩

end Go.Proofs.YtmnmpfcfdopjnaaGreatDoor

/- What is written for a byte, read again. -/
namespace Go.Proofs.YtmnmpfcfdopjnaaGreatDoor
open Go.RowKit

theorem hx_ok (d : Nat) (h : d < 16) : hxT (hx d) = true ∧ hvT (hx d) = d := by
  obtain rfl | rfl | rfl | rfl | rfl | rfl | rfl | rfl | rfl | rfl | rfl | rfl | rfl | rfl | rfl | rfl : d = 0 ∨ d = 1 ∨ d = 2 ∨ d = 3 ∨ d = 4 ∨ d = 5 ∨ d = 6 ∨ d = 7 ∨ d = 8 ∨ d = 9 ∨ d = 10 ∨ d = 11 ∨ d = 12 ∨ d = 13 ∨ d = 14 ∨ d = 15 := by omega
  all_goals exact ⟨by decide, by decide⟩
theorem ch_one (c : UInt8) (h0 : c ≠ 0) (h : c.toNat < 128) : chV c.toNat = ⟨#[c]⟩ := by
  have hc : c.toNat ≠ 0 := fun e => h0 (UInt8.toNat_inj.1 (by rw [e]; rfl))
  unfold chV
  rw [if_neg (by
    rintro (h1 | h1)
    · exact hc h1
    · unfold Lib.validRune at h1; simp at h1; omega)]
  unfold Utf8.encode
  dsimp only
  have hv : Utf8.valid (c.toNat : Int) = true := by unfold Utf8.valid; simp; omega
  rw [if_pos hv]
  simp only [Int.toNat_natCast]
  rw [if_pos h]
  simp
theorem ext_zero (s : ByteArray) : s.extract 0 s.size = s := by
  apply WideShapes.bytes_inj
  simp
theorem data_ext (s : ByteArray) (k : Nat) : (s.extract k s.size).data.toList = s.data.toList.drop k := by
  simp only [ByteArray.data_extract, Array.toList_extract, List.extract]
  rw [List.take_of_length_le]
  simp
theorem bt_get (s : ByteArray) (k : Nat) : btT s k = s.data.toList.getD k 0 := rfl
theorem size_len (s : ByteArray) : s.size = s.data.toList.length := by simp
/-- An escape of a byte's number, at the beginning. -/
theorem hex_num {Y : ByteArray} {c : UInt8} {R : List UInt8} (h0 : c ≠ 0) (hc : c.toNat < 128) (h : Y.data.toList = (numB c).data.toList ++ R) : hexV Y 0 = (⟨#[c]⟩, (numB c).size) := by
  have hnb : (numB c).data.toList = 92 :: (hexs c.toNat ++ [32]) := rfl
  have hsz : (numB c).size = (hexs c.toNat).length + 2 := by rw [size_len, hnb]; simp
  rw [hnb] at h
  have hl : Y.size = (hexs c.toNat).length + 2 + R.length := by rw [size_len, h]; simp; omega
  have hE : (Y.extract 1 Y.size).data.toList = hexs c.toNat ++ 32 :: R := by rw [data_ext, h]; simp
  have key : hN (Y.extract 1 Y.size) = (hexs c.toNat).length ∧ hC (Y.extract 1 Y.size) (hexs c.toNat).length = c.toNat ∧ btT (Y.extract 1 Y.size) (hexs c.toNat).length = 32 := by
    generalize Y.extract 1 Y.size = E at hE
    have b : ∀ i, btT E i = (hexs c.toNat ++ 32 :: R).getD i 0 := fun i => by rw [bt_get, hE]
    have hN' : hN E = (((hexs c.toNat ++ 32 :: R).take 6).takeWhile hxT).length := by unfold hN; rw [hE]
    have h32 : hxT 32 = false := by decide
    unfold hexs at *
    by_cases hs : c.toNat < 16
    · rw [if_pos hs] at *
      have k1 := hx_ok c.toNat hs
      refine ⟨by rw [hN']; simp [k1.1, h32], ?_, by rw [b]; rfl⟩
      show hC E 0 * 16 + hvT (btT E 0) = _
      rw [b]
      show 0 * 16 + hvT (hx c.toNat) = _
      rw [k1.2]; omega
    · rw [if_neg hs] at *
      have k1 := hx_ok (c.toNat / 16) (by omega)
      have k2 := hx_ok (c.toNat % 16) (by omega)
      refine ⟨by rw [hN']; simp [k1.1, k2.1, h32], ?_, by rw [b]; rfl⟩
      show (hC E 0 * 16 + hvT (btT E 0)) * 16 + hvT (btT E 1) = _
      rw [b, b]
      show (0 * 16 + hvT (hx (c.toNat / 16))) * 16 + hvT (hx (c.toNat % 16)) = _
      rw [k1.2, k2.2]; omega
  have hpos : 0 < (hexs c.toNat).length := by unfold hexs; split <;> simp
  have hb0 : btT Y 0 = 92 := by rw [bt_get, h]; rfl
  unfold hexV
  rw [if_neg (not_not_intro ⟨by omega, hb0⟩), key.1, if_pos hpos, key.2.1, key.2.2, ch_one c h0 hc, hsz, decide_eq_true (by omega)]
  simp only [Bool.true_and]
  rw [show blT 32 = true by decide]
  congr 1
  simp; omega
/-- An escape of a byte itself, at the beginning. -/
theorem hex_esc {Y : ByteArray} {c : UInt8} {R : List UInt8} (hx0 : hxT c = false) (hl0 : leT c = false) (h : Y.data.toList = (escB c).data.toList ++ R) : hexV Y 0 = (⟨#[c]⟩, 2) := by
  have h' : Y.data.toList = 92 :: c :: R := h
  have hl : Y.size = 2 + R.length := by rw [size_len, h']; simp; omega
  have hE : (Y.extract 1 Y.size).data.toList = c :: R := by rw [data_ext, h']; simp
  have hN0 : hN (Y.extract 1 Y.size) = 0 := by unfold hN; rw [hE]; simp [hx0]
  have hb0 : btT Y 0 = 92 := by rw [bt_get, h']; rfl
  have hb1 : btT Y 1 = c := by rw [bt_get, h']; rfl
  unfold hexV
  rw [if_neg (not_not_intro ⟨by omega, hb0⟩), hN0, if_neg (by omega), hb1, if_neg (by rw [hl0]; simp; omega)]

/-- What a part of an identifier is at the beginning, of what is written for a byte. -/
theorem id_piece {s : ByteArray} {i : Nat} {Y : ByteArray} {R : List UInt8} (h0 : bt s i ≠ 0) (h : Y.data.toList = (wB s i).data.toList ++ R) : idP Y 0 = (⟨#[bt s i]⟩, (wB s i).size) ∧ (plainB s i = true ∧ btT Y 0 = bt s i ∨ plainB s i = false ∧ btT Y 0 = 92 ∧ 0 < (hexV Y 0).2) := by
  unfold wB at h ⊢
  generalize hc : bt s i = c at *
  cases hp : plainB s i
  · rw [hp] at h
    rw [if_neg (by simp)] at h ⊢
    have hnl : letB c = false ∧ ¬ (c.toNat = 45 ∧ 1 < s.size) ∧ (dgB c && !firB s i) = false := by
      unfold plainB at hp
      rw [hc, Bool.or_eq_false_iff, Bool.or_eq_false_iff] at hp
      exact ⟨hp.1.1, of_decide_eq_false hp.1.2, hp.2⟩
    have hn : hexV Y 0 = (⟨#[c]⟩, ((if (dgB c || ctlB c) = true then numB c else escB c)).size) := by
      cases hd : dgB c || ctlB c
      · rw [hd, if_neg (by simp)] at h
        rw [if_neg (by simp)]
        rw [Bool.or_eq_false_iff] at hd
        have d1 := of_decide_eq_false hd.1
        have d2 := of_decide_eq_false hd.2
        have d3 := of_decide_eq_false hnl.1
        exact hex_esc (decide_eq_false (by omega)) (decide_eq_false (by omega)) h
      · rw [hd, if_pos rfl] at h
        rw [if_pos rfl]
        refine hex_num h0 ?_ h
        rcases Bool.or_eq_true _ _ |>.mp hd with h1 | h1
        · have := of_decide_eq_true h1; omega
        · have := of_decide_eq_true h1; omega
    have hb : btT Y 0 = 92 := by
      rw [bt_get, h]
      split <;> rfl
    have hsz : 0 < ((if (dgB c || ctlB c) = true then numB c else escB c)).size := by
      split
      · rw [size_len]; show 0 < (92 :: (hexs c.toNat ++ [32])).length; simp
      · exact Nat.zero_lt_succ 1
    refine ⟨?_, .inr ⟨rfl, hb, by rw [hn]; exact hsz⟩⟩
    unfold idP
    rw [hn, if_neg (fun h => by simp only at h; omega)]
  · rw [hp] at h
    rw [if_pos rfl] at h ⊢
    have h' : Y.data.toList = c :: R := h
    have hb : btT Y 0 = c := by rw [bt_get, h']; rfl
    have hsz : 0 < Y.size := by rw [size_len, h']; simp
    have hin : inT c = true := by
      unfold plainB at hp
      rw [hc, Bool.or_eq_true, Bool.or_eq_true] at hp
      unfold inT
      rcases hp with (h1 | h1) | h1
      · rw [show letT c = true from h1]; rfl
      · have := of_decide_eq_true h1
        rw [decide_eq_true this.1]; simp
      · rw [Bool.and_eq_true] at h1
        rw [show dgT c = true from h1.1]; simp
    have h92 : c ≠ 92 := fun e => by rw [e] at hin; exact absurd hin (by decide)
    have hx := hex_none (s := Y) (k := 0) (fun h => h92 (hb.symm.trans h.2))
    refine ⟨?_, .inl ⟨rfl, hb⟩⟩
    unfold idP
    rw [if_pos ⟨by rw [hx], hsz, by rw [hb]; exact hin⟩, hb]
    rfl

end Go.Proofs.YtmnmpfcfdopjnaaGreatDoor

/- What was written for a name is one word that means it, whatever stands behind it. -/
namespace Go.Proofs.YtmnmpfcfdopjnaaGreatDoor
open Go.RowKit

theorem idx_neg {l : List UInt8} {c : UInt8} (h : ∀ x ∈ l, x ≠ c) : Lib.indexByte l c < 0 := by
  induction l with
  | nil => simp [Lib.indexByte]
  | cons b l ih =>
    have hb : (b == c) = false := by rw [beq_eq_false_iff_ne]; exact h b (by simp)
    have := ih fun x hx => h x (by simp [hx])
    have hm : Lib.indexByte l c = -1 := by
      have := Lib.indexByte_ge l c
      omega
    simp [Lib.indexByte, hb, hm]
theorem hasAt_no {g s : ByteArray} {k : Nat} (h : ∀ x ∈ g.data.toList, x ≠ btT s k) : hasAt g s k = false := by
  unfold hasAt
  rw [show s.data.toList.getD k 0 = btT s k from rfl, decide_eq_false (show ¬ 0 ≤ Lib.indexByte g.data.toList (btT s k) from fun h' => by have := idx_neg h; omega), Bool.and_false]
theorem run_no {s : ByteArray} {k : Nat} (h : dgT (btT s k) = false) : run s k = 0 := by
  by_cases hk : k < s.size
  · exact run_miss hk (by rw [← btT_at hk]; exact h)
  · exact run_end (by omega)
/-- No number begins there. -/
theorem scan_no {s : ByteArray} (h : (btT s 0 ≠ 43 ∧ btT s 0 ≠ 45 ∧ dgT (btT s 0) = false ∧ btT s 0 ≠ 46) ∨ (btT s 0 = 45 ∧ dgT (btT s 1) = false ∧ btT s 1 ≠ 46)) : scanV s = 0 := by
  have hn : noneB s = true := by
    unfold noneB fracN aOne
    rcases h with ⟨h1, h2, h3, h4⟩ | ⟨h1, h3, h4⟩
    · have hp : hasAt PM s 0 = false := hasAt_no (by intro x hx; simp [PM] at hx; rcases hx with rfl | rfl <;> exact fun e => by first | exact h1 e.symm | exact h2 e.symm)
      rw [hp]
      have hr : run s false.toNat = 0 := run_no h3
      have hd : hasAt DOT s (false.toNat + run s false.toNat) = false := by
        rw [hr]
        exact hasAt_no (by intro x hx; simp [DOT] at hx; subst hx; exact fun e => h4 e.symm)
      rw [hd, hr]
      rfl
    · have hr : ∀ b : Bool, (b = true → run s b.toNat = 0) := fun b hb => by subst hb; exact run_no h3
      cases hp : hasAt PM s 0
      · have hr0 : run s false.toNat = 0 := run_no (by show dgT (btT s 0) = false; rw [h1]; decide)
        have hd : hasAt DOT s (false.toNat + run s false.toNat) = false := by
          rw [hr0]
          exact hasAt_no (by intro x hx; simp [DOT] at hx; subst hx; show (46 : UInt8) ≠ btT s 0; rw [h1]; decide)
        rw [hd, hr0]; rfl
      · have hr1 := hr true rfl
        have hd : hasAt DOT s (true.toNat + run s true.toNat) = false := by
          rw [hr1]
          exact hasAt_no (by intro x hx; simp [DOT] at hx; subst hx; exact fun e => h4 e.symm)
        rw [hd, hr1]; rfl
  unfold scanV
  rw [if_pos hn]

theorem eb_split (g : Nat → ByteArray) : ∀ (n i : Nat), i < n → ∃ R, eb g n = eb g i ++ ((g i).data.toList ++ R)
  | 0, i, h => by omega
  | n + 1, i, h => by
    by_cases e : i = n
    · subst e; exact ⟨[], by simp [eb]⟩
    · obtain ⟨R, hR⟩ := eb_split g n i (by omega)
      exact ⟨R ++ (g n).data.toList, by show eb g n ++ (g n).data.toList = _; rw [hR]; simp⟩
theorem eb_next (g : Nat → ByteArray) (i : Nat) : (eb g (i + 1)).length = (eb g i).length + (g i).size := by
  show (eb g i ++ (g i).data.toList).length = _
  rw [List.length_append, ← size_len]
theorem wB_pos (s : ByteArray) (i : Nat) : 0 < (wB s i).size := by
  unfold wB
  split
  · exact Nat.zero_lt_succ 0
  · split
    · rw [size_len]; show 0 < (92 :: (hexs (bt s i).toNat ++ [32])).length; simp
    · exact Nat.zero_lt_succ 1
theorem qB_pos (s : ByteArray) (i : Nat) : 0 < (qB s i).size := by
  unfold qB
  split
  · exact Nat.zero_lt_succ 1
  · split
    · rw [size_len]; show 0 < (92 :: (hexs (bt s i).toNat ++ [32])).length; simp
    · exact Nat.zero_lt_succ 0
theorem eb_ge {g : Nat → ByteArray} (h : ∀ i, 0 < (g i).size) : ∀ n, n ≤ (eb g n).length
  | 0 => Nat.zero_le _
  | n + 1 => by rw [eb_next]; have := eb_ge h n; have := h n; omega

theorem idx_pos : ∀ {l : List UInt8}, (0 : UInt8) ∈ l → 0 ≤ Lib.indexByte l 0
  | b :: l, h => by
    by_cases hb : b = 0
    · simp [Lib.indexByte, hb]
    · have hm : (0 : UInt8) ∈ l := by
        rcases List.mem_cons.1 h with e | e
        · exact absurd e.symm hb
        · exact e
      have ih := idx_pos hm
      simp [Lib.indexByte, hb]
      omega
theorem zB_has {s : ByteArray} {i : Nat} (hi : i < s.size) (h : s[i] = 0) : zB s = true := by
  have hm : (0 : UInt8) ∈ s.data.toList := by
    have hl : i < s.data.toList.length := by simpa using hi
    have e : s.data.toList[i] = s[i] := rfl
    rw [← h, ← e]
    exact List.getElem_mem hl
  have := idx_pos hm
  unfold zB
  simp; omega
/-- A name has no byte 0. -/
theorem text_nz {s : ByteArray} {lim : Int} (h : txtB s lim = true) {i : Nat} (hi : i < s.size) : bt s i ≠ 0 := by
  unfold txtB at h
  rw [Bool.and_eq_true] at h
  intro e
  have hz := zB_has hi (by rw [← bt_at hi]; exact e)
  rw [hz] at h
  exact absurd h.2 (by simp)
/-- What stands behind a word ends it. -/
def Ends (X : List UInt8) : Prop := X = [] ∨ ∃ x X', X = x :: X' ∧ inT x = false ∧ x ≠ 92
theorem id_ends {Y : ByteArray} (h : Ends Y.data.toList) : (idP Y 0).2 = 0 := by
  rcases h with h | ⟨x, X', h, h1, h2⟩
  · have hs : Y.size = 0 := by rw [size_len, h]; rfl
    have hx := hex_none (s := Y) (k := 0) (fun h => by omega)
    unfold idP
    rw [if_neg (fun h => by omega), hx]
  · have hb : btT Y 0 = x := by rw [bt_get, h]; rfl
    have hx := hex_none (s := Y) (k := 0) (fun h => h2 (hb.symm.trans h.2))
    unfold idP
    rw [if_neg (fun h => by rw [hb, h1] at h; exact absurd h.2.2 (by simp)), hx]

theorem mean_write {s T : ByteArray} {X : List UInt8} (hz : ∀ i, i < s.size → bt s i ≠ 0) (hT : T.data.toList = eb (wB s) s.size ++ X) (hX : Ends X) : ∀ (d i F : Nat), i + d = s.size → d < F →
    mean (fun j => some (idP T j)) F (eb (wB s) i).length (s.data.toList.take i) = some (s.data.toList, (eb (wB s) s.size).length)
  | 0, i, F, h, hF => by
    obtain ⟨F, rfl⟩ : ∃ G, F = G + 1 := ⟨F - 1, by omega⟩
    obtain rfl : i = s.size := by omega
    have he : (T.extract (eb (wB s) s.size).length T.size).data.toList = X := by rw [data_ext, hT]; simp
    have hi := id_ends (Y := T.extract (eb (wB s) s.size).length T.size) (by rw [he]; exact hX)
    rw [id_sh, Nat.add_zero] at hi
    rw [mean_done (m := (idP T (eb (wB s) s.size).length).1) (by rw [← hi]), List.take_of_length_le (by rw [← size_len]; exact Nat.le_refl _)]
  | d + 1, i, F, h, hF => by
    obtain ⟨F, rfl⟩ : ∃ G, F = G + 1 := ⟨F - 1, by omega⟩
    have hi : i < s.size := by omega
    obtain ⟨R, hR⟩ := eb_split (wB s) s.size i hi
    have he : (T.extract (eb (wB s) i).length T.size).data.toList = (wB s i).data.toList ++ (R ++ X) := by rw [data_ext, hT, hR]; simp
    have hp := (id_piece (hz i hi) he).1
    rw [id_sh, Nat.add_zero] at hp
    rw [mean_step (p := fun j => some (idP T j)) (by rw [hp]) (by have := wB_pos s i; omega) (fun e => hz i hi (by simpa using e)), ← eb_next]
    have ht : s.data.toList.take i ++ [bt s i] = s.data.toList.take (i + 1) := by
      have hl : i < s.data.toList.length := by rw [← size_len]; exact hi
      rw [List.take_succ_eq_append_getElem hl]
      congr 1
      unfold bt
      rw [List.getD, List.getElem?_eq_getElem hl]; rfl
    show mean _ F _ (s.data.toList.take i ++ [bt s i]) = _
    rw [ht]
    exact mean_write hz hT hX d (i + 1) F (by omega) (by omega)

theorem ident_write {s T : ByteArray} {X : List UInt8} (hn : nameB s = true) (hT : T.data.toList = eb (wB s) s.size ++ X) (hX : Ends X) : identV T 0 = .ok (s, (eb (wB s) s.size).length) := by
  unfold nameB at hn
  rw [Bool.and_eq_true] at hn
  have h64 : s.size ≤ 64 := by
    have := hn.2
    unfold txtB at this
    rw [Bool.and_eq_true] at this
    have := of_decide_eq_true this.1
    omega
  have hl := eb_ge (wB_pos s) s.size
  have hTs : T.size = (eb (wB s) s.size).length + X.length := by rw [size_len, hT]; simp
  have hm := mean_write (fun i hi => text_nz hn.2 hi) hT hX s.size 0 (T.size + 1) (by omega) (by omega)
  unfold identV meanV
  have hm' : mean (fun j => some (idP T j)) (T.size + 1) 0 [] = some (s.data.toList, (eb (wB s) s.size).length) := hm
  rw [hm']
  simp only
  rw [if_neg (by rw [← size_len]; omega)]

end Go.Proofs.YtmnmpfcfdopjnaaGreatDoor

/- A written name, and a quoted text, as words. -/
namespace Go.Proofs.YtmnmpfcfdopjnaaGreatDoor
open Go.RowKit

/-- The piece of a place. -/
theorem piece_at {s T : ByteArray} {X : List UInt8} (hT : T.data.toList = eb (wB s) s.size ++ X) {i : Nat} (hi : i < s.size) : ∃ R, (T.extract (eb (wB s) i).length T.size).data.toList = (wB s i).data.toList ++ R := by
  obtain ⟨R, hR⟩ := eb_split (wB s) s.size i hi
  exact ⟨R ++ X, by rw [data_ext, hT, hR]; simp⟩
theorem piece_facts {s T : ByteArray} {X : List UInt8} (hn : nameB s = true) (hT : T.data.toList = eb (wB s) s.size ++ X) {i : Nat} (hi : i < s.size) :
    plainB s i = true ∧ btT T (eb (wB s) i).length = bt s i ∨ plainB s i = false ∧ btT T (eb (wB s) i).length = 92 ∧ 0 < (hexV T (eb (wB s) i).length).2 := by
  unfold nameB at hn
  rw [Bool.and_eq_true] at hn
  obtain ⟨R, hR⟩ := piece_at hT hi
  have := (id_piece (text_nz hn.2 hi) hR).2
  rw [bt_sh, hex_sh, Nat.add_zero] at this
  exact this
theorem plain_one {s : ByteArray} {i : Nat} (h : plainB s i = true) : (wB s i).size = 1 := by unfold wB; rw [if_pos h]; rfl

/-- How a written name begins. -/
theorem write_begins {s T : ByteArray} {X : List UInt8} (hn : nameB s = true) (hT : T.data.toList = eb (wB s) s.size ++ X) : scanV T = 0 ∧ begV T 0 = true := by
  have hpos : 0 < s.size := by unfold nameB at hn; rw [Bool.and_eq_true] at hn; exact of_decide_eq_true hn.1
  have hTl : 0 < T.size := by
    have := eb_ge (wB_pos s) s.size
    have : T.size = (eb (wB s) s.size).length + X.length := by rw [size_len, hT]; simp
    omega
  have f0 := piece_facts hn hT hpos
  have e0 : (eb (wB s) 0).length = 0 := rfl
  rw [e0] at f0
  have beg1 : ∀ k, k ≤ T.size → btT T k = 92 → 0 < (hexV T k).2 → k = 0 → begV T 0 = true := fun k _ hb hx hk => by
    subst hk
    have h1 : ∀ l, Lib.hasPrefix (T.extract 0 T.size).data.toList (45 :: l) = false := fun l => by
      cases hp : Lib.hasPrefix (T.extract 0 T.size).data.toList (45 :: l)
      · rfl
      · have := (pre_head hp).2; rw [hb] at this; exact absurd this (by decide)
    unfold begV
    rw [if_neg (by rw [h1 [45]]; simp), h1 []]
    simp only [Bool.toNat_false, Nat.add_zero]
    rw [decide_eq_true hx]; rfl
  rcases f0 with ⟨hp, hb⟩ | ⟨hp, hb, hx⟩
  · unfold plainB at hp
    rw [Bool.or_eq_true, Bool.or_eq_true] at hp
    have hfir : firB s 0 = true := decide_eq_true (.inl rfl)
    rw [hfir] at hp
    have hcase : letB (bt s 0) = true ∨ ((bt s 0).toNat = 45 ∧ 1 < s.size) := by
      rcases hp with (h | h) | h
      · exact .inl h
      · exact .inr (of_decide_eq_true h)
      · simp at h
    rcases hcase with hl | ⟨h45, h1s⟩
    · have hlt := of_decide_eq_true hl
      have hne : btT T 0 ≠ 43 ∧ btT T 0 ≠ 45 ∧ dgT (btT T 0) = false ∧ btT T 0 ≠ 46 := by
        rw [hb]
        refine ⟨fun e => ?_, fun e => ?_, decide_eq_false (by omega), fun e => ?_⟩ <;> (rw [e] at hlt; simp at hlt)
      refine ⟨scan_no (.inl hne), ?_⟩
      have h1 : ∀ l, Lib.hasPrefix (T.extract 0 T.size).data.toList (45 :: l) = false := fun l => by
        cases hp : Lib.hasPrefix (T.extract 0 T.size).data.toList (45 :: l)
        · rfl
        · exact absurd (pre_head hp).2 hne.2.1
      unfold begV
      rw [if_neg (by rw [h1 [45]]; simp), h1 []]
      simp only [Bool.toNat_false, Nat.add_zero]
      rw [decide_eq_true hTl, hb, show letT (bt s 0) = true from hl]
      simp
    · have h45c : bt s 0 = 45 := UInt8.toNat_inj.1 (by rw [h45]; rfl)
      have hpl : plainB s 0 = true := by unfold plainB; rw [decide_eq_true (show (bt s 0).toNat = 45 ∧ 1 < s.size from ⟨h45, h1s⟩)]; simp
      have e1 : (eb (wB s) 1).length = 1 := by rw [eb_next, plain_one hpl]; rfl
      have f1 := piece_facts hn hT h1s
      rw [e1] at f1
      rw [h45c] at hb
      have hfir1 : firB s 1 = true := decide_eq_true (.inr ⟨rfl, h45⟩)
      have hfacts : (dgT (btT T 1) = false ∧ btT T 1 ≠ 46) ∧ (btT T 1 = 45 ∨ letT (btT T 1) = true ∨ 0 < (hexV T 1).2) ∧ 1 < T.size := by
        have hsz : 1 < T.size := by
          have h2 := eb_ge (wB_pos s) s.size
          have : T.size = (eb (wB s) s.size).length + X.length := by rw [size_len, hT]; simp
          omega
        rcases f1 with ⟨hp1, hb1⟩ | ⟨hp1, hb1, hx1⟩
        · unfold plainB at hp1
          rw [hfir1, Bool.or_eq_true, Bool.or_eq_true] at hp1
          rw [hb1]
          rcases hp1 with (h | h) | h
          · have hlt := of_decide_eq_true h
            exact ⟨⟨decide_eq_false (by omega), fun e => by rw [e] at hlt; simp at hlt⟩, .inr (.inl h), hsz⟩
          · have h5 := (of_decide_eq_true h).1
            have h5c : bt s 1 = 45 := UInt8.toNat_inj.1 (by rw [h5]; rfl)
            rw [h5c]
            exact ⟨⟨by decide, by decide⟩, .inl rfl, hsz⟩
          · simp at h
        · rw [hb1]
          exact ⟨⟨by decide, by decide⟩, .inr (.inr hx1), hsz⟩
      refine ⟨scan_no (.inr ⟨hb, hfacts.1⟩), ?_⟩
      have hpre : Lib.hasPrefix (T.extract 0 T.size).data.toList [45] = true := by
        rw [ext_zero]
        unfold Lib.hasPrefix
        have : T.data.toList = 45 :: T.data.toList.drop 1 := by
          have hl : 0 < T.data.toList.length := by rw [← size_len]; exact hTl
          have := List.drop_eq_getElem_cons hl
          rw [List.drop_zero] at this
          rw [this]
          congr 1
          rw [bt_get, List.getD, List.getElem?_eq_getElem hl] at hb
          simpa using hb
        rw [this]; simp
      unfold begV
      split
      · rfl
      · rename_i hdd
        rw [hpre]
        simp only [Bool.toNat_true, Nat.zero_add]
        rcases hfacts.2.1 with h | h | h
        · exfalso
          apply hdd
          rw [ext_zero]
          unfold Lib.hasPrefix
          have hl : 1 < T.data.toList.length := by rw [← size_len]; exact hfacts.2.2
          have : T.data.toList = 45 :: 45 :: T.data.toList.drop 2 := by
            have h2 := List.drop_eq_getElem_cons (show 0 < T.data.toList.length by omega)
            have h3 := List.drop_eq_getElem_cons hl
            rw [List.drop_zero] at h2
            rw [bt_get, List.getD, List.getElem?_eq_getElem (show 0 < T.data.toList.length by omega)] at hb
            rw [bt_get, List.getD, List.getElem?_eq_getElem hl] at h
            simp only [Option.getD_some] at hb h
            rw [h2, h3, hb, h]; simp
          rw [this]; simp
        · rw [decide_eq_true hfacts.2.2, h]; simp
        · rw [decide_eq_true h]; rfl
  · have hne : btT T 0 ≠ 43 ∧ btT T 0 ≠ 45 ∧ dgT (btT T 0) = false ∧ btT T 0 ≠ 46 := by rw [hb]; decide
    exact ⟨scan_no (.inl hne), beg1 0 (Nat.zero_le _) hb hx rfl⟩

theorem word_write {s T : ByteArray} {X : List UInt8} (hn : nameB s = true) (hT : T.data.toList = eb (wB s) s.size ++ X) (hX : Ends X) (h40 : X.getD 0 0 ≠ 40) : wordV T 0 = .ok (⟨1, s, noB⟩, (eb (wB s) s.size).length) := by
  have hb := write_begins hn hT
  unfold wordV
  rw [ext_zero, hb.1, if_neg (by omega), if_pos hb.2]
  unfold nameV
  rw [ident_write hn hT hX]
  simp only
  have hat : isAt T (eb (wB s) s.size).length 40 = false := decide_eq_false (fun h => h40 (by
    have := h.2
    rw [bt_get, hT, List.getD, List.getElem?_append_right (Nat.le_refl _), Nat.sub_self] at this
    exact this))
  rw [hat, if_neg (by simp)]

end Go.Proofs.YtmnmpfcfdopjnaaGreatDoor

/- The words of a written name, of a quoted text, and of two names among brackets. -/
namespace Go.Proofs.YtmnmpfcfdopjnaaGreatDoor
open Go.RowKit

theorem pre_no {s : ByteArray} {k : Nat} {c : UInt8} {l : List UInt8} (h : btT s k ≠ c) : Lib.hasPrefix (s.extract k s.size).data.toList (c :: l) = false := by
  cases hp : Lib.hasPrefix (s.extract k s.size).data.toList (c :: l)
  · rfl
  · exact absurd (pre_head hp).2 h
/-- A word that begins with neither blank nor slash is the next one. -/
theorem next_here {s : ByteArray} {k : Nat} (hk : k < s.size) (hb : blT (btT s k) = false) (h : btT s k ≠ 47) : nextV s (s.size + 1) k = .ok (some k) :=
  next_word hk hb (pre_no h)
theorem beg_no {s : ByteArray} {k : Nat} (h1 : btT s k ≠ 45) (h2 : btT s k ≠ 92) (h3 : letT (btT s k) = false) : begV s k = false := by
  unfold begV
  rw [if_neg (by rw [pre_no h1]; simp), pre_no h1]
  simp only [Bool.toNat_false, Nat.add_zero]
  have hx := hex_none (s := s) (k := k) (fun h => h2 h.2)
  rw [decide_eq_false (show ¬ 0 < (hexV s k).2 by rw [hx]; simp), h3]
  simp
theorem scan_at {s : ByteArray} {k : Nat} (h : btT s k ≠ 43 ∧ btT s k ≠ 45 ∧ dgT (btT s k) = false ∧ btT s k ≠ 46) : scanV (s.extract k s.size) = 0 :=
  scan_no (.inl (by rw [bt_sh, Nat.add_zero]; exact h))
theorem word_sg {s : ByteArray} {k : Nat} {c : UInt8} (hb : btT s k = c) (hc : c = 91 ∨ c = 93) : wordV s k = .ok (⟨7, ⟨#[c]⟩, noB⟩, k + 1) := by
  have h1 : scanV (s.extract k s.size) = 0 := scan_at (by rw [hb]; rcases hc with rfl | rfl <;> decide)
  have h2 : begV s k = false := by
    apply beg_no <;> (rw [hb]; rcases hc with rfl | rfl <;> decide)
  unfold wordV
  rw [h1, if_neg (by omega), h2, if_neg (by simp), hb, if_neg (by rcases hc with rfl | rfl <;> decide), if_neg (by rcases hc with rfl | rfl <;> decide)]

/-- A written name begins with no blank and no slash. -/
theorem write_first {s T : ByteArray} {X : List UInt8} (hn : nameB s = true) (hT : T.data.toList = eb (wB s) s.size ++ X) : blT (btT T 0) = false ∧ btT T 0 ≠ 47 ∧ 0 < T.size := by
  have hpos : 0 < s.size := by unfold nameB at hn; rw [Bool.and_eq_true] at hn; exact of_decide_eq_true hn.1
  have hTl : 0 < T.size := by
    have := eb_ge (wB_pos s) s.size
    have : T.size = (eb (wB s) s.size).length + X.length := by rw [size_len, hT]; simp
    omega
  have f0 := piece_facts hn hT hpos
  have e0 : (eb (wB s) 0).length = 0 := rfl
  rw [e0] at f0
  rcases f0 with ⟨hp, hb⟩ | ⟨_, hb, _⟩
  · rw [hb]
    unfold plainB at hp
    rw [Bool.or_eq_true, Bool.or_eq_true] at hp
    have hn3 : (letB (bt s 0) = true ∨ (bt s 0).toNat = 45) ∨ dgB (bt s 0) = true := by
      rcases hp with (h | h) | h
      · exact .inl (.inl h)
      · exact .inl (.inr (of_decide_eq_true h).1)
      · rw [Bool.and_eq_true] at h; exact .inr h.1
    have hr : (bt s 0).toNat = 45 ∨ (48 ≤ (bt s 0).toNat) := by
      rcases hn3 with (h | h) | h
      · have := of_decide_eq_true h; omega
      · exact .inl h
      · have := of_decide_eq_true h; omega
    refine ⟨?_, fun e => by rw [e] at hr; simp at hr, hTl⟩
    unfold blT leT
    rw [decide_eq_false (by omega), decide_eq_false (by omega)]; rfl
  · rw [hb]; exact ⟨by decide, by decide, hTl⟩

theorem tok_write {s : ByteArray} (hn : nameB s = true) : tokV (writeV s) = .ok [(⟨1, s, noB⟩, 0), (⟨8, noB, noB⟩, (writeV s).size)] ∧ (writeV s).size ≤ 512 := by
  have hw : writeV s = ⟨(eb (wB s) s.size).toArray⟩ := by unfold writeV; rw [if_pos hn]
  have h64 : s.size ≤ 64 := by
    have := hn
    unfold nameB txtB at this
    rw [Bool.and_eq_true, Bool.and_eq_true] at this
    have := of_decide_eq_true this.2.1
    omega
  have hl := eb_len (wB_size s) s.size
  have hT : (writeV s).data.toList = eb (wB s) s.size ++ [] := by rw [hw]; simp
  have hsz : (writeV s).size = (eb (wB s) s.size).length := by rw [size_len, hT]; simp
  have hf := write_first hn hT
  have hwd := word_write hn hT (.inl rfl) (by simp)
  refine ⟨?_, by omega⟩
  exact tok_of_reads (l := [(⟨1, s, noB⟩, 0)]) (by omega) (.step (next_here hf.2.2 hf.1 hf.2.1) hwd (.done (next_end (by omega))))
theorem write_inj {a b : ByteArray} (ha : nameB a = true) (hb : nameB b = true) (h : writeV a = writeV b) : a = b := by
  have h1 := (tok_write ha).1
  rw [h, (tok_write hb).1] at h1
  simp only [Except.ok.injEq, List.cons.injEq, Prod.mk.injEq, Wd.mk.injEq] at h1
  exact h1.1.1.2.1.symm

/-- Two written names, one behind the other, in brackets. -/
theorem tok_two {a b T : ByteArray} (ha : nameB a = true) (hb : nameB b = true) (hT : T.data.toList = 91 :: ((writeV a).data.toList ++ 32 :: ((writeV b).data.toList ++ [93]))) :
    tokV T = .ok [(⟨7, ⟨#[91]⟩, noB⟩, 0), (⟨1, a, noB⟩, 1), (⟨1, b, noB⟩, 2 + (writeV a).size), (⟨7, ⟨#[93]⟩, noB⟩, 2 + (writeV a).size + (writeV b).size), (⟨8, noB, noB⟩, T.size)] ∧ T.size ≤ 2000 := by
  have wa : (writeV a).data.toList = eb (wB a) a.size := by unfold writeV; rw [if_pos ha]
  have wb : (writeV b).data.toList = eb (wB b) b.size := by unfold writeV; rw [if_pos hb]
  have sa : (writeV a).size = (eb (wB a) a.size).length := by rw [size_len, wa]
  have sb : (writeV b).size = (eb (wB b) b.size).length := by rw [size_len, wb]
  have la := (tok_write ha).2
  have lb := (tok_write hb).2
  have hTs : T.size = (writeV a).size + (writeV b).size + 3 := by rw [size_len, hT]; simp; omega
  have b0 : btT T 0 = 91 := by rw [bt_get, hT]; rfl
  have hA : (T.extract 1 T.size).data.toList = eb (wB a) a.size ++ (32 :: ((writeV b).data.toList ++ [93])) := by rw [data_ext, hT, ← wa]; simp
  have hBl : (T.extract (1 + (writeV a).size) T.size).data.toList = 32 :: ((writeV b).data.toList ++ [93]) := by
    rw [data_ext, hT, size_len, show 1 + (writeV a).data.toList.length = (writeV a).data.toList.length + 1 by omega]
    simp
  have hB : (T.extract (2 + (writeV a).size) T.size).data.toList = eb (wB b) b.size ++ [93] := by
    rw [data_ext, hT, size_len, show 2 + (writeV a).data.toList.length = ((writeV a).data.toList.length + 1) + 1 by omega, ← wb]
    simp [List.drop_append]
  have hE : btT T (2 + (writeV a).size + (writeV b).size) = 93 := by
    have := bt_sh T (2 + (writeV a).size) (writeV b).size
    rw [← this, bt_get, hB, sb]
    simp
  have fa := write_first ha hA
  have fb := write_first hb hB
  rw [bt_sh, Nat.add_zero] at fa fb
  have ea : Ends (32 :: ((writeV b).data.toList ++ [93])) := .inr ⟨32, _, rfl, by decide, by decide⟩
  have eb' : Ends [93] := .inr ⟨93, _, rfl, by decide, by decide⟩
  have wda := word_write ha hA ea (by simp)
  have wdb := word_write hb hB eb' (by simp)
  have va : wordV T 1 = .ok (⟨1, a, noB⟩, 1 + (writeV a).size) := by
    have := word_sh T 1 0 (by omega)
    rw [this, wda, sa]; rfl
  have vb : wordV T (2 + (writeV a).size) = .ok (⟨1, b, noB⟩, 2 + (writeV a).size + (writeV b).size) := by
    have := word_sh T (2 + (writeV a).size) 0 (by omega)
    rw [Nat.add_zero] at this
    rw [this, wdb, sb]; rfl
  have bsp : btT T (1 + (writeV a).size) = 32 := by
    have := bt_sh T (1 + (writeV a).size) 0
    rw [Nat.add_zero] at this
    rw [← this, bt_get, hBl]; rfl
  refine ⟨?_, by omega⟩
  refine tok_of_reads (l := [(⟨7, ⟨#[91]⟩, noB⟩, 0), (⟨1, a, noB⟩, 1), (⟨1, b, noB⟩, 2 + (writeV a).size), (⟨7, ⟨#[93]⟩, noB⟩, 2 + (writeV a).size + (writeV b).size)]) (by omega) ?_
  refine .step (next_here (by omega) (by rw [b0]; decide) (by rw [b0]; decide)) (word_sg b0 (.inl rfl)) ?_
  refine .step (next_here (by omega) fa.1 fa.2.1) va ?_
  refine .step (a := 2 + (writeV a).size) ?_ vb ?_
  · rw [next_blank (by omega) (by rw [bsp]; decide)]
    have hh := next_here (s := T) (k := 2 + (writeV a).size) (by omega) fb.1 fb.2.1
    rw [← hh, show 1 + (writeV a).size + 1 = 2 + (writeV a).size by omega]
    exact next_fuel _ _ _ (by omega) (by omega) (by omega)
  · refine .step (next_here (by omega) (by rw [hE]; decide) (by rw [hE]; decide)) (word_sg hE (.inr rfl)) ?_
    exact .done (next_end (by omega))

end Go.Proofs.YtmnmpfcfdopjnaaGreatDoor

/- A number's text and a unit behind it: one word. -/
namespace Go.Proofs.YtmnmpfcfdopjnaaGreatDoor
open Go.RowKit

/-- A length's text, of its parts. -/
theorem text_parts {n sc : Int} (hsc : isSc sc = true) (hn : isLen n = true) :
    ∃ sg W fr F, Shape (textV n sc) sg W fr F [] [] [] ∧ W ≠ [] ∧ (textV n sc).size ≤ 30 := by
  have hb : -68719476736 ≤ n ∧ n ≤ 68719476736 := by simpa [isLen] using hn
  unfold textV
  rw [if_neg (by rw [hn]; simp), if_neg (by rw [hsc]; simp)]
  by_cases h : n < 0
  · rw [if_pos h]
    obtain ⟨W, fr, F, sh, hv, hs, _, hW, -⟩ := txt_shape (p := (⟨#[45]⟩ : ByteArray)) (sg := [45]) rfl (.inr (.inr rfl)) (a := -n) hsc (by omega) (by omega)
    exact ⟨_, _, _, _, sh, by rw [hW]; exact dec_ne _, hs⟩
  · rw [if_neg h]
    obtain ⟨W, fr, F, sh, hv, hs, _, hW, -⟩ := txt_shape (p := (⟨#[]⟩ : ByteArray)) (sg := []) rfl (.inl rfl) (a := n) hsc (by omega) (by omega)
    exact ⟨_, _, _, _, sh, by rw [hW]; exact dec_ne _, hs⟩

/-- The number at the beginning of a text is the length's. -/
theorem text_scan {n sc : Int} (hsc : isSc sc = true) (hn : isLen n = true) {T : ByteArray} {U : List UInt8} (hT : T.data.toList = (textV n sc).data.toList ++ U)
    (ud : hd dg U = false) (up : hd (· == 46) U = false) (ue : hd eB U = false) :
    scanV T = (textV n sc).size ∧ 0 < (textV n sc).size ∧ blT (btT T 0) = false ∧ btT T 0 ≠ 47 := by
  obtain ⟨sg, W, fr, F, sh, hW, hs⟩ := text_parts hsc hn
  have st : ShapeT T sg W fr F U := {
    eq := by rw [hT, sh.eq]; simp
    sgn := sh.sgn
    dw := sh.dw
    df := sh.df
    fr := sh.fr
    ud := ud
    up := up
    ue := ue
    some := hW }
  have hsz := sh.size
  simp only [List.length_nil, Nat.add_zero] at hsz
  refine ⟨by rw [st.scan, hsz]; omega, sh.scan.2, ?_⟩
  have h0 : btT T 0 = 45 ∨ btT T 0 = 43 ∨ dg (btT T 0) = true := by
    unfold btT
    rw [st.eq]
    rcases st.sgn with h | h | h
    · rw [h]
      cases hw : W with
      | nil => exact absurd hw hW
      | cons c W' => exact .inr (.inr (sh.dw c (by rw [hw]; simp)))
    · rw [h]; exact .inr (.inl rfl)
    · rw [h]; exact .inl rfl
  rcases h0 with h | h | h
  · rw [h]; exact ⟨by decide, by decide⟩
  · rw [h]; exact ⟨by decide, by decide⟩
  · have h1 := dg_true h
    refine ⟨?_, fun e => by rw [e] at h1; simp at h1⟩
    unfold blT leT
    rw [decide_eq_false (by omega), decide_eq_false (by omega)]; rfl

theorem ext_left {T A : ByteArray} {U : List UInt8} (hT : T.data.toList = A.data.toList ++ U) : T.extract 0 A.size = A := by
  apply ba_ext
  rw [ext_data, hT, List.drop_zero, Nat.sub_zero, List.take_left' (by simp)]
theorem ext_right {T A : ByteArray} {U : List UInt8} (hT : T.data.toList = A.data.toList ++ U) : T.extract A.size T.size = ⟨U.toArray⟩ := by
  apply ba_ext
  rw [data_ext, hT, List.drop_left' (by simp)]

/-- A word that is a number and a unit, whatever stands behind it. -/
theorem word_unit {n sc : Int} (hsc : isSc sc = true) (hn : isLen n = true) {T : ByteArray} {u : ByteArray} {U : List UInt8} (hT : T.data.toList = (textV n sc).data.toList ++ U)
    (ud : hd dg U = false) (up : hd (· == 46) U = false) (ue : hd eB U = false) (h37 : U.getD 0 0 ≠ 37) (hb : begV ⟨U.toArray⟩ 0 = true) {m : Nat} (hi : identV ⟨U.toArray⟩ 0 = .ok (u, m)) :
    wordV T 0 = .ok (⟨5, u, textV n sc⟩, (textV n sc).size + m) := by
  obtain ⟨hs, hp, _, _⟩ := text_scan hsc hn hT ud up ue
  have hle : (textV n sc).size ≤ T.size := by rw [size_len T, hT, size_len (textV n sc)]; simp
  unfold wordV
  rw [ext_zero, if_pos (by omega), hs]
  unfold numV
  rw [Nat.zero_add]
  have h1 : isAt T (textV n sc).size 37 = false := by
    have e : btT T (textV n sc).size = U.getD 0 0 := by
      unfold btT
      rw [hT, List.getD, List.getElem?_append_right (by simp)]
      simp [List.getD]
    unfold isAt
    rw [e]
    exact decide_eq_false fun h => h37 h.2
  have h2 : begV T (textV n sc).size = true := by
    have := beg_sh T (textV n sc).size 0
    rw [ext_right hT, Nat.add_zero] at this
    rw [← this]; exact hb
  have h3 : identV T (textV n sc).size = .ok (u, (textV n sc).size + m) := by
    have := ident_sh T (textV n sc).size 0 (by omega)
    rw [ext_right hT, Nat.add_zero, hi] at this
    rw [this]; rfl
  rw [h1, if_neg (by simp), if_pos h2, h3, ext_left hT]

theorem word_pct {n sc : Int} (hsc : isSc sc = true) (hn : isLen n = true) {T : ByteArray} {U : List UInt8} (hT : T.data.toList = (textV n sc).data.toList ++ 37 :: U) :
    wordV T 0 = .ok (⟨4, noB, textV n sc⟩, (textV n sc).size + 1) := by
  obtain ⟨hs, hp, _, _⟩ := text_scan hsc hn hT rfl rfl rfl
  have hle : (textV n sc).size < T.size := by rw [size_len T, hT, size_len (textV n sc)]; simp
  unfold wordV
  rw [ext_zero, if_pos (by omega), hs]
  unfold numV
  rw [Nat.zero_add]
  have h1 : isAt T (textV n sc).size 37 = true := by
    have e : btT T (textV n sc).size = 37 := by
      unfold btT
      rw [hT, List.getD, List.getElem?_append_right (by simp)]
      simp
    unfold isAt
    rw [e]
    simp [hle]
  rw [if_pos h1, ext_left hT]

end Go.Proofs.YtmnmpfcfdopjnaaGreatDoor

/- What is allowed, as bits of a number. -/
namespace Go.Proofs.YtmnmpfcfdopjnaaGreatDoor
open Go.RowKit

/-- Whether a number has a bit. -/
def hasB (a b : Int) : Bool := decide (a % 64 / b % 2 = 1)

theorem bitN (a : Int) (i : Nat) : (BitVec.ofInt 64 a).getLsbD i = decide ((a % 18446744073709551616).toNat / 2 ^ i % 2 = 1) := by
  rw [← BitVec.testBit_toNat, BitVec.toNat_ofInt, Nat.testBit_eq_decide_div_mod_eq]
  rfl
theorem wrap_small (n : Nat) (h : n < 9223372036854775808) : IntKind.i64.wrap (n : Int) = (n : Int) := by
  rw [IntKind.wrap_i64]; omega
theorem and_pow (a b : Int) (i : Nat) (hb : BitVec.ofInt 64 b = BitVec.twoPow 64 i) (hn : ((BitVec.twoPow 64 i).toNat : Int) = b) (hs : (BitVec.twoPow 64 i).toNat < 9223372036854775808)
    (hh : decide ((a % 18446744073709551616).toNat / 2 ^ i % 2 = 1) = hasB a b) : bits .and .i64 a b = if hasB a b = true then b else 0 := by
  unfold bits
  show IntKind.i64.wrap ((BitVec.ofInt 64 a &&& BitVec.ofInt 64 b).toNat : Int) = _
  rw [hb, BitVec.and_twoPow, bitN, hh]
  cases hasB a b
  · rfl
  · simp only [if_true]
    rw [wrap_small _ hs, hn]
theorem and_1 (a : Int) : bits .and .i64 a 1 = if hasB a 1 = true then 1 else 0 := and_pow a 1 0 (by decide) (by decide) (by decide) (by unfold hasB; congr 1; apply propext; simp; omega)
theorem and_2 (a : Int) : bits .and .i64 a 2 = if hasB a 2 = true then 2 else 0 := and_pow a 2 1 (by decide) (by decide) (by decide) (by unfold hasB; congr 1; apply propext; simp; omega)
theorem and_4 (a : Int) : bits .and .i64 a 4 = if hasB a 4 = true then 4 else 0 := and_pow a 4 2 (by decide) (by decide) (by decide) (by unfold hasB; congr 1; apply propext; simp; omega)
theorem and_8 (a : Int) : bits .and .i64 a 8 = if hasB a 8 = true then 8 else 0 := and_pow a 8 3 (by decide) (by decide) (by decide) (by unfold hasB; congr 1; apply propext; simp; omega)
theorem and_16 (a : Int) : bits .and .i64 a 16 = if hasB a 16 = true then 16 else 0 := and_pow a 16 4 (by decide) (by decide) (by decide) (by unfold hasB; congr 1; apply propext; simp; omega)
theorem and_32 (a : Int) : bits .and .i64 a 32 = if hasB a 32 = true then 32 else 0 := and_pow a 32 5 (by decide) (by decide) (by decide) (by unfold hasB; congr 1; apply propext; simp; omega)

/-- A bit that may be asked for. -/
def isBit (b : Int) : Prop := b = 1 ∨ b = 2 ∨ b = 4 ∨ b = 8 ∨ b = 16 ∨ b = 32
theorem and_ne (a b : Int) (h : isBit b) : (bits .and .i64 a b != 0) = hasB a b := by
  rcases h with rfl | rfl | rfl | rfl | rfl | rfl
  · rw [and_1]; cases hasB a 1 <;> rfl
  · rw [and_2]; cases hasB a 2 <;> rfl
  · rw [and_4]; cases hasB a 4 <;> rfl
  · rw [and_8]; cases hasB a 8 <;> rfl
  · rw [and_16]; cases hasB a 16 <;> rfl
  · rw [and_32]; cases hasB a 32 <;> rfl

theorem wrap_mod (n : Int) : IntKind.i64.wrap n % 64 = n % 64 := by
  rw [IntKind.wrap_i64]; omega
theorem or_has (a m b : Int) (h : isBit b) : hasB (bits .or .i64 a m) b = (hasB a b || hasB m b) := by
  have key : ∀ i : Nat, i < 6 → ((2 : Int) ^ i = b) → (∀ x : Int, decide ((x % 18446744073709551616).toNat / 2 ^ i % 2 = 1) = hasB x b) → hasB (bits .or .i64 a m) b = (hasB a b || hasB m b) := by
    intro i hi hb hx
    have e1 : bits .or .i64 a m % 64 = (((BitVec.ofInt 64 a ||| BitVec.ofInt 64 m).toNat : Nat) : Int) % 64 := by
      unfold bits
      exact wrap_mod _
    have e2 : hasB (bits .or .i64 a m) b = hasB (((BitVec.ofInt 64 a ||| BitVec.ofInt 64 m).toNat : Nat) : Int) b := by
      unfold hasB; rw [e1]
    rw [e2, ← hx, ← hx a, ← hx m, ← bitN, ← bitN, ← bitN]
    rw [BitVec.ofInt_natCast, BitVec.ofNat_toNat, BitVec.setWidth_eq, BitVec.getLsbD_or]
  rcases h with rfl | rfl | rfl | rfl | rfl | rfl
  · exact key 0 (by omega) rfl (fun x => by unfold hasB; congr 1; apply propext; simp; omega)
  · exact key 1 (by omega) rfl (fun x => by unfold hasB; congr 1; apply propext; simp; omega)
  · exact key 2 (by omega) rfl (fun x => by unfold hasB; congr 1; apply propext; simp; omega)
  · exact key 3 (by omega) rfl (fun x => by unfold hasB; congr 1; apply propext; simp; omega)
  · exact key 4 (by omega) rfl (fun x => by unfold hasB; congr 1; apply propext; simp; omega)
  · exact key 5 (by omega) rfl (fun x => by unfold hasB; congr 1; apply propext; simp; omega)

end Go.Proofs.YtmnmpfcfdopjnaaGreatDoor

/- Whether a size may be. -/
namespace Go.Proofs.YtmnmpfcfdopjnaaGreatDoor
open Go.RowKit

/-- A size as a value. -/
def lenA (k n : Int) : Value := .agg #[.int .i64 k, .int .i64 n]
/-- A size in a box. -/
def LenAt (w : World) (b : Nat) (k n : Int) : Prop := w.heap[b]? = some (.cells #[.int .i64 k, .int .i64 n] 23 (0, 0))
theorem LenAt.lt {w : World} {b : Nat} {k n : Int} (h : LenAt w b k n) : b < w.heap.size := (Array.getElem?_eq_some_iff.1 h).1
theorem LenAt.c0 {w : World} {b : Nat} {k n : Int} (h : LenAt w b k n) : w.cell? ⟨b, 0, none⟩ = some (.int .i64 k) := by simp [World.cell?, show w.heap[b]? = _ from h]
theorem LenAt.c1 {w : World} {b : Nat} {k n : Int} (h : LenAt w b k n) : w.cell? ⟨b, 1, none⟩ = some (.int .i64 n) := by simp [World.cell?, show w.heap[b]? = _ from h]
theorem LenAt.below {w w' : World} {B b : Nat} {k n : Int} (h : LenAt w b k n) (hb : Below B w w') (hB : b < B) : LenAt w' b k n := (hb.block b hB).trans h

set_option maxRecDepth 100000 in
set_option maxHeartbeats 1000000 in
theorem may_any (x a : Int) (b : Nat) (w : World) (hx : isBit x) (h : Boxed w b 3 (.int .i64 a)) :
    Calls Tryz.prog 16 #[.int .i64 x, .pointer (some ⟨b, 0, none⟩)] w fun e w' => e = .returned (.bool (hasB a x)) ∧ w' = w := by
  have c0 := h.cell
  have hn := and_ne a x hx
  have HN := hide hn
  clear hn hx h
  go_enter Tryz.func16, Tryz.ntmps16
  go_wp2
  go_ret
  refine ⟨?_, rfl⟩
  rw [← HN.out]
  rfl

/-- A number is within a limit. -/
def withinV (n lim : Int) (below : Bool) : Bool := decide (n ≤ lim) && (decide (0 ≤ n) || (below && decide (-lim ≤ n)))

set_option maxRecDepth 100000 in
set_option maxHeartbeats 1000000 in
theorem within_any (lim k n : Int) (below : Bool) (b : Nat) (w : World) (h : LenAt w b k n) (hl : 0 ≤ lim) (hl2 : lim ≤ 1000000000000) :
    Calls Tryz.prog 17 #[.int .i64 lim, .bool below, .pointer (some ⟨b, 0, none⟩)] w fun e w' => e = .returned (.bool (withinV n lim below)) ∧ w' = w := by
  have c1 := h.c1
  have hv : withinV n lim below = (decide (n ≤ lim) && (decide (0 ≤ n) || (below && decide (-lim ≤ n)))) := rfl
  have HV := hide hv
  clear hv h
  go_enter Tryz.func17, Tryz.ntmps17
  go_wp2
  all_goals (go_ret; refine ⟨?_, rfl⟩; rw [HV.out]; show Ending.returned (.bool _) = _; congr 2; simp_all; try omega)

/-- A size may be. -/
def goodV (k n a : Int) : Bool :=
  if k = 2 then withinV n 68719476736 (hasB a 2)
  else if k = 3 then hasB a 1 && withinV n 1073741824 (hasB a 2)
  else if k = 6 then hasB a 16 && withinV n 1073741824 false
  else if n = 0 then (if k = 1 then hasB a 4 else if k = 4 then hasB a 8 else if k = 5 then hasB a 8 else if k = 7 then hasB a 32 else false) else false

/-- The table of keywords. -/
def kwCells : Array Value := #[.int .i64 1, .int .i64 0, .int .i64 4, .string ⟨#[97, 117, 116, 111]⟩, .int .i64 4, .int .i64 0, .int .i64 8, .string ⟨#[109, 105, 110, 45, 99, 111, 110, 116, 101, 110, 116]⟩, .int .i64 5, .int .i64 0, .int .i64 8, .string ⟨#[109, 97, 120, 45, 99, 111, 110, 116, 101, 110, 116]⟩, .int .i64 7, .int .i64 0, .int .i64 32, .string ⟨#[110, 111, 110, 101]⟩]
/-- The table of keywords lies as its text says. -/
def KW (w : World) : Prop := w.var? Tryz.prog "parterre/value.keywords" = some kwCells
theorem kw_named : Tryz.prog.globalNamed "parterre/value.keywords" = some 0 := by kernel_rfl
theorem KW.below {w w' : World} (h : KW w) (hb : Below w.heap.size w w') : KW w' := by
  unfold KW World.var? at h ⊢
  rw [kw_named] at h ⊢
  simp only [Option.bind_some] at h ⊢
  have hlt : 0 < w.heap.size := by
    rcases Nat.lt_or_ge 0 w.heap.size with h' | h'
    · exact h'
    · rw [Array.getElem?_eq_none h'] at h; cases h
  rw [hb.block _ hlt]
  exact h
theorem KW.cell {w : World} (h : KW w) (i : Nat) : w.cell? ⟨0, i, none⟩ = kwCells[i]? := World.var?_cell kw_named h i
theorem KW.c0 {w : World} (h : KW w) : w.cell? ⟨0, 0, none⟩ = some (.int .i64 1) := h.cell 0
theorem KW.c1 {w : World} (h : KW w) : w.cell? ⟨0, 1, none⟩ = some (.int .i64 0) := h.cell 1
theorem KW.c2 {w : World} (h : KW w) : w.cell? ⟨0, 2, none⟩ = some (.int .i64 4) := h.cell 2
theorem KW.c3 {w : World} (h : KW w) : w.cell? ⟨0, 3, none⟩ = some (.string ⟨#[97, 117, 116, 111]⟩) := h.cell 3
theorem KW.c4 {w : World} (h : KW w) : w.cell? ⟨0, 4, none⟩ = some (.int .i64 4) := h.cell 4
theorem KW.c5 {w : World} (h : KW w) : w.cell? ⟨0, 5, none⟩ = some (.int .i64 0) := h.cell 5
theorem KW.c6 {w : World} (h : KW w) : w.cell? ⟨0, 6, none⟩ = some (.int .i64 8) := h.cell 6
theorem KW.c7 {w : World} (h : KW w) : w.cell? ⟨0, 7, none⟩ = some (.string ⟨#[109, 105, 110, 45, 99, 111, 110, 116, 101, 110, 116]⟩) := h.cell 7
theorem KW.c8 {w : World} (h : KW w) : w.cell? ⟨0, 8, none⟩ = some (.int .i64 5) := h.cell 8
theorem KW.c9 {w : World} (h : KW w) : w.cell? ⟨0, 9, none⟩ = some (.int .i64 0) := h.cell 9
theorem KW.c10 {w : World} (h : KW w) : w.cell? ⟨0, 10, none⟩ = some (.int .i64 8) := h.cell 10
theorem KW.c11 {w : World} (h : KW w) : w.cell? ⟨0, 11, none⟩ = some (.string ⟨#[109, 97, 120, 45, 99, 111, 110, 116, 101, 110, 116]⟩) := h.cell 11
theorem KW.c12 {w : World} (h : KW w) : w.cell? ⟨0, 12, none⟩ = some (.int .i64 7) := h.cell 12
theorem KW.c13 {w : World} (h : KW w) : w.cell? ⟨0, 13, none⟩ = some (.int .i64 0) := h.cell 13
theorem KW.c14 {w : World} (h : KW w) : w.cell? ⟨0, 14, none⟩ = some (.int .i64 32) := h.cell 14
theorem KW.c15 {w : World} (h : KW w) : w.cell? ⟨0, 15, none⟩ = some (.string ⟨#[110, 111, 110, 101]⟩) := h.cell 15

/-- What Good begins with. -/
def gw (w : World) (k n a : Int) : World := (w.alloc (.cells #[.int .i64 k, .int .i64 n] 23)).alloc (.cells #[.int .i64 a] 3)
theorem gw_len (w : World) (k n a : Int) : LenAt (gw w k n a) w.heap.size k n := by
  have h := heap_alloc_new w (.cells #[.int .i64 k, .int .i64 n] 23)
  have hb := (Below.refl (w.alloc (.cells #[.int .i64 k, .int .i64 n] 23)).heap.size _).alloc (Nat.le_refl _) (.cells #[.int .i64 a] 3)
  exact (hb.block _ (by simp)).trans h
theorem gw_box (w : World) (k n a : Int) : Boxed (gw w k n a) (w.heap.size + 1) 3 (.int .i64 a) := by
  have h := Boxed.new (w.alloc (.cells #[.int .i64 k, .int .i64 n] 23)) 3 (.int .i64 a)
  simpa [gw] using h
theorem gw_below (w : World) (k n a : Int) : Below w.heap.size w (gw w k n a) := ((Below.refl _ w).alloc (Nat.le_refl _) _).alloc (by simp) _

set_option maxRecDepth 100000 in
set_option maxHeartbeats 4000000 in
theorem good_px (n a : Int) (w : World) :
    Calls Tryz.prog 7 #[lenA 2 n, .int .i64 a] w fun e w' => e = .returned (.bool (goodV 2 n a)) ∧ Below w.heap.size w w' := by
  have hL := gw_len w 2 n a
  have hX := gw_box w 2 n a
  have hB := gw_below w 2 n a
  unfold gw at hL hX hB
  have c1 := may_any 2 a _ _ (by unfold isBit; omega) hX
  have c2 := within_any 68719476736 2 n (hasB a 2) _ _ hL (by omega) (by omega)
  have C1 := hide c1
  have C2 := hide c2
  clear c1 c2 hL hX
  unfold lenA
  go_enter Tryz.func7, Tryz.ntmps7
  go_wp2_with fail
  refine Calls.mono C1.out ?_
  rintro e w1 ⟨rfl, rfl⟩
  go_wp2_with fail
  refine Calls.mono C2.out ?_
  rintro e w1 ⟨rfl, rfl⟩
  go_wp2_with fail
  go_ret
  exact ⟨rfl, hB⟩

set_option maxRecDepth 100000 in
set_option maxHeartbeats 4000000 in
theorem good_pct (n a : Int) (w : World) :
    Calls Tryz.prog 7 #[lenA 3 n, .int .i64 a] w fun e w' => e = .returned (.bool (goodV 3 n a)) ∧ Below w.heap.size w w' := by
  have hL := gw_len w 3 n a
  have hX := gw_box w 3 n a
  have hB := gw_below w 3 n a
  unfold gw at hL hX hB
  have c0 := may_any 1 a _ _ (by unfold isBit; omega) hX
  have c1 := may_any 2 a _ _ (by unfold isBit; omega) hX
  have c2 := within_any 1073741824 3 n (hasB a 2) _ _ hL (by omega) (by omega)
  have hv : goodV 3 n a = (hasB a 1 && withinV n 1073741824 (hasB a 2)) := rfl
  rw [hv]
  cases h1 : hasB a 1
  · rw [h1] at c0
    have C0 := hide c0
    clear c0 c1 c2 hL hX hv h1
    unfold lenA
    go_enter Tryz.func7, Tryz.ntmps7
    go_wp2_with fail
    refine Calls.mono C0.out ?_
    rintro e w1 ⟨rfl, rfl⟩
    go_wp2_with fail
    go_ret
    exact ⟨rfl, hB⟩
  · rw [h1] at c0
    have C0 := hide c0
    have C1 := hide c1
    have C2 := hide c2
    clear c0 c1 c2 hL hX hv h1
    unfold lenA
    go_enter Tryz.func7, Tryz.ntmps7
    go_wp2_with fail
    refine Calls.mono C0.out ?_
    rintro e w1 ⟨rfl, rfl⟩
    go_wp2_with fail
    refine Calls.mono C1.out ?_
    rintro e w1 ⟨rfl, rfl⟩
    go_wp2_with fail
    refine Calls.mono C2.out ?_
    rintro e w1 ⟨rfl, rfl⟩
    go_wp2_with fail
    go_ret
    exact ⟨rfl, hB⟩

set_option maxRecDepth 100000 in
set_option maxHeartbeats 4000000 in
theorem good_fr (n a : Int) (w : World) :
    Calls Tryz.prog 7 #[lenA 6 n, .int .i64 a] w fun e w' => e = .returned (.bool (goodV 6 n a)) ∧ Below w.heap.size w w' := by
  have hL := gw_len w 6 n a
  have hX := gw_box w 6 n a
  have hB := gw_below w 6 n a
  unfold gw at hL hX hB
  have c0 := may_any 16 a _ _ (by unfold isBit; omega) hX
  have c2 := within_any 1073741824 6 n false _ _ hL (by omega) (by omega)
  have hv : goodV 6 n a = (hasB a 16 && withinV n 1073741824 false) := rfl
  rw [hv]
  cases h1 : hasB a 16
  · rw [h1] at c0
    have C0 := hide c0
    clear c0 c2 hL hX hv h1
    unfold lenA
    go_enter Tryz.func7, Tryz.ntmps7
    go_wp2_with fail
    refine Calls.mono C0.out ?_
    rintro e w1 ⟨rfl, rfl⟩
    go_wp2_with fail
    go_ret
    exact ⟨rfl, hB⟩
  · rw [h1] at c0
    have C0 := hide c0
    have C2 := hide c2
    clear c0 c2 hL hX hv h1
    unfold lenA
    go_enter Tryz.func7, Tryz.ntmps7
    go_wp2_with fail
    refine Calls.mono C0.out ?_
    rintro e w1 ⟨rfl, rfl⟩
    go_wp2_with fail
    refine Calls.mono C2.out ?_
    rintro e w1 ⟨rfl, rfl⟩
    go_wp2_with fail
    go_ret
    exact ⟨rfl, hB⟩

end Go.Proofs.YtmnmpfcfdopjnaaGreatDoor

/- Whether a size without a number may be. -/
namespace Go.Proofs.YtmnmpfcfdopjnaaGreatDoor
open Go.RowKit

theorem eqk (x a : Int) : (x = a ∧ (x == a) = true) ∨ (¬ x = a ∧ (x == a) = false) := by
  by_cases h : x = a
  · exact .inl ⟨h, by simp [h]⟩
  · exact .inr ⟨h, by simp [h]⟩

set_option maxRecDepth 100000 in
theorem kw_idx0 (w : World) : Sem.run Tryz.prog (Instr.index 45 (.agg #[.int .i64 1, .int .i64 0, .int .i64 4, .string ⟨#[97, 117, 116, 111]⟩, .int .i64 4, .int .i64 0, .int .i64 8, .string ⟨#[109, 105, 110, 45, 99, 111, 110, 116, 101, 110, 116]⟩, .int .i64 5, .int .i64 0, .int .i64 8, .string ⟨#[109, 97, 120, 45, 99, 111, 110, 116, 101, 110, 116]⟩, .int .i64 7, .int .i64 0, .int .i64 32, .string ⟨#[110, 111, 110, 101]⟩]) (.int .i64 0)) w = .ok (.agg #[.int .i64 1, .int .i64 0, .int .i64 4, .string ⟨#[97, 117, 116, 111]⟩]) w := rfl
set_option maxRecDepth 100000 in
theorem kw_idx1 (w : World) : Sem.run Tryz.prog (Instr.index 45 (.agg #[.int .i64 1, .int .i64 0, .int .i64 4, .string ⟨#[97, 117, 116, 111]⟩, .int .i64 4, .int .i64 0, .int .i64 8, .string ⟨#[109, 105, 110, 45, 99, 111, 110, 116, 101, 110, 116]⟩, .int .i64 5, .int .i64 0, .int .i64 8, .string ⟨#[109, 97, 120, 45, 99, 111, 110, 116, 101, 110, 116]⟩, .int .i64 7, .int .i64 0, .int .i64 32, .string ⟨#[110, 111, 110, 101]⟩]) (.int .i64 1)) w = .ok (.agg #[.int .i64 4, .int .i64 0, .int .i64 8, .string ⟨#[109, 105, 110, 45, 99, 111, 110, 116, 101, 110, 116]⟩]) w := rfl
set_option maxRecDepth 100000 in
theorem kw_idx2 (w : World) : Sem.run Tryz.prog (Instr.index 45 (.agg #[.int .i64 1, .int .i64 0, .int .i64 4, .string ⟨#[97, 117, 116, 111]⟩, .int .i64 4, .int .i64 0, .int .i64 8, .string ⟨#[109, 105, 110, 45, 99, 111, 110, 116, 101, 110, 116]⟩, .int .i64 5, .int .i64 0, .int .i64 8, .string ⟨#[109, 97, 120, 45, 99, 111, 110, 116, 101, 110, 116]⟩, .int .i64 7, .int .i64 0, .int .i64 32, .string ⟨#[110, 111, 110, 101]⟩]) (.int .i64 2)) w = .ok (.agg #[.int .i64 5, .int .i64 0, .int .i64 8, .string ⟨#[109, 97, 120, 45, 99, 111, 110, 116, 101, 110, 116]⟩]) w := rfl
set_option maxRecDepth 100000 in
theorem kw_idx3 (w : World) : Sem.run Tryz.prog (Instr.index 45 (.agg #[.int .i64 1, .int .i64 0, .int .i64 4, .string ⟨#[97, 117, 116, 111]⟩, .int .i64 4, .int .i64 0, .int .i64 8, .string ⟨#[109, 105, 110, 45, 99, 111, 110, 116, 101, 110, 116]⟩, .int .i64 5, .int .i64 0, .int .i64 8, .string ⟨#[109, 97, 120, 45, 99, 111, 110, 116, 101, 110, 116]⟩, .int .i64 7, .int .i64 0, .int .i64 32, .string ⟨#[110, 111, 110, 101]⟩]) (.int .i64 3)) w = .ok (.agg #[.int .i64 7, .int .i64 0, .int .i64 32, .string ⟨#[110, 111, 110, 101]⟩]) w := rfl

theorem LenAt.alloc {w : World} {b : Nat} {k n : Int} (h : LenAt w b k n) (o : Obj) : LenAt (w.alloc o) b k n := h.below ((Below.refl w.heap.size w).alloc (Nat.le_refl _) o) h.lt
theorem boxed_alloc {w : World} {b t : Nat} {v : Value} (h : Boxed w b t v) (o : Obj) : Boxed (w.alloc o) b t v := (((Below.refl w.heap.size w).alloc (Nat.le_refl _) o).block b h.lt).trans h

/-- No keyword's kind among the first j. -/
def kwMiss (k n : Int) (j : Nat) : Prop := ¬ n = 0 ∨ ((0 < j → ¬ k = 1) ∧ (1 < j → ¬ k = 4) ∧ (2 < j → ¬ k = 5) ∧ (3 < j → ¬ k = 7))

set_option maxRecDepth 100000 in
set_option maxHeartbeats 4000000 in
theorem good_kw (k n a : Int) (w : World) (hk : KW w) (h2 : ¬ k = 2) (h3 : ¬ k = 3) (h6 : ¬ k = 6) :
    Calls Tryz.prog 7 #[lenA k n, .int .i64 a] w fun e w' => e = .returned (.bool (goodV k n a)) ∧ Below w.heap.size w w' := by
  have hL := gw_len w k n a
  have hX := gw_box w k n a
  have hB := gw_below w k n a
  have hK := hk.below hB
  have e0 := hK.c0
  have e1 := hK.c1
  have e2 := hK.c2
  have e3 := hK.c3
  have e4 := hK.c4
  have e5 := hK.c5
  have e6 := hK.c6
  have e7 := hK.c7
  have e8 := hK.c8
  have e9 := hK.c9
  have e10 := hK.c10
  have e11 := hK.c11
  have e12 := hK.c12
  have e13 := hK.c13
  have e14 := hK.c14
  have e15 := hK.c15
  unfold gw at hL hX hB hK e0 e1 e2 e3 e4 e5 e6 e7 e8 e9 e10 e11 e12 e13 e14 e15
  have hb2 : (k == 2) = false := by simp [h2]
  have hb3 : (k == 3) = false := by simp [h3]
  have hb6 : (k == 6) = false := by simp [h6]
  have H2 := hide h2
  have H3 := hide h3
  have H6 := hide h6
  clear h2 h3 h6
  have HL := hide hL
  have HX := hide hX
  have HK := hide hK
  clear hL hX hK hk
  unfold lenA
  go_enter Tryz.func7, Tryz.ntmps7
  go_wp2_with fail
  clear e0 e1 e2 e3 e4 e5 e6 e7 e8 e9 e10 e11 e12 e13 e14 e15
  go_loopw [38] (fun i wr => ∃ j : Nat, j ≤ 4 ∧ i = .int .i64 (j : Int) ∧ Hid (LenAt wr w.heap.size k n) ∧ Hid (Boxed wr (w.heap.size + 1) 3 (.int .i64 a)) ∧ Hid (Below w.heap.size w wr) ∧ Hid (kwMiss k n j)) (fun i _ => (4 - intOf i).toNat)
  case atStart => exact ⟨0, by omega, by go_num, HL, HX, hide hB, hide (.inr ⟨fun h => by omega, fun h => by omega, fun h => by omega, fun h => by omega⟩)⟩
  case round =>
    clear HL HX HK hB
    obtain ⟨j, hj, rfl, HL, HX, HB, HM⟩ := hrel
    have l0 := (HL.out).c0
    have l1 := (HL.out).c1
    by_cases h4 : j = 4
    · subst h4
      have hv : goodV k n a = false := by
        unfold goodV
        rw [if_neg H2.out, if_neg H3.out, if_neg H6.out]
        split
        · rcases HM.out with h | ⟨a1, a2, a3, a4⟩
          · contradiction
          · rw [if_neg (a1 (by omega)), if_neg (a2 (by omega)), if_neg (a3 (by omega)), if_neg (a4 (by omega))]
        · rfl
      have HV := hide hv
      clear hv HM
      go_wp2_with fail
      go_ret
      exact ⟨by rw [HV.out]; rfl, HB.out⟩
    · have hB := HB.out
      obtain rfl | rfl | rfl | rfl : j = 0 ∨ j = 1 ∨ j = 2 ∨ j = 3 := by omega
      · have HL4 := (HL.out).alloc (.cells #[.int .i64 1, .int .i64 0, .int .i64 4, .string ⟨#[97, 117, 116, 111]⟩] 44)
        have HX4 := boxed_alloc HX.out (.cells #[.int .i64 1, .int .i64 0, .int .i64 4, .string ⟨#[97, 117, 116, 111]⟩] 44)
        have hB4 := hB.alloc hB.size (.cells #[.int .i64 1, .int .i64 0, .int .i64 4, .string ⟨#[97, 117, 116, 111]⟩] 44)
        have l0' := HL4.c0
        have l1' := HL4.c1
        have cm := may_any 4 a _ _ (by unfold isBit; omega) HX4
        have CM := hide cm
        have HL5 := hide HL4
        have HX5 := hide HX4
        have HB5 := hide hB4
        clear cm HL4 HX4 hB4 hB HL HX HB
        rcases eqk n 0 with ⟨h0, h0b⟩ | ⟨h0, h0b⟩
        · rcases eqk k 1 with ⟨h1, h1b⟩ | ⟨h1, h1b⟩
          · have hv : goodV k n a = hasB a 4 := by subst h1 h0; rfl
            have HV := hide hv
            clear hv HM h1 h0
            go_wp2_with fail
            rw [kw_idx0]
            go_wp2_with fail
            refine Calls.mono CM.out ?_
            rintro e w1 ⟨rfl, rfl⟩
            go_wp2_with fail
            go_ret
            exact ⟨by rw [HV.out]; rfl, HB5.out⟩
          · have HM2 : Hid (kwMiss k n (0 + 1)) := by
              rcases HM.out with h | ⟨a1, a2, a3, a4⟩
              · exact hide (.inl h)
              · exact hide (.inr ⟨fun h => h1, fun h => by omega, fun h => by omega, fun h => by omega⟩)
            clear HM CM h0 h0b h1
            go_wp2_with fail
            rw [kw_idx0]
            go_wp2_with fail
            go_round
            case rel => exact ⟨0 + 1, by omega, by go_num, HL5, HX5, HB5, HM2⟩
            case measure => simp [intOf]
        · have HM2 : Hid (kwMiss k n (0 + 1)) := hide (.inl h0)
          clear HM CM h0
          go_wp2_with fail
          rw [kw_idx0]
          go_wp2_with fail
          go_round
          case rel => exact ⟨0 + 1, by omega, by go_num, HL5, HX5, HB5, HM2⟩
          case measure => simp [intOf]
      · have HL4 := (HL.out).alloc (.cells #[.int .i64 4, .int .i64 0, .int .i64 8, .string ⟨#[109, 105, 110, 45, 99, 111, 110, 116, 101, 110, 116]⟩] 44)
        have HX4 := boxed_alloc HX.out (.cells #[.int .i64 4, .int .i64 0, .int .i64 8, .string ⟨#[109, 105, 110, 45, 99, 111, 110, 116, 101, 110, 116]⟩] 44)
        have hB4 := hB.alloc hB.size (.cells #[.int .i64 4, .int .i64 0, .int .i64 8, .string ⟨#[109, 105, 110, 45, 99, 111, 110, 116, 101, 110, 116]⟩] 44)
        have l0' := HL4.c0
        have l1' := HL4.c1
        have cm := may_any 8 a _ _ (by unfold isBit; omega) HX4
        have CM := hide cm
        have HL5 := hide HL4
        have HX5 := hide HX4
        have HB5 := hide hB4
        clear cm HL4 HX4 hB4 hB HL HX HB
        rcases eqk n 0 with ⟨h0, h0b⟩ | ⟨h0, h0b⟩
        · rcases eqk k 4 with ⟨h1, h1b⟩ | ⟨h1, h1b⟩
          · have hv : goodV k n a = hasB a 8 := by subst h1 h0; rfl
            have HV := hide hv
            clear hv HM h1 h0
            go_wp2_with fail
            rw [kw_idx1]
            go_wp2_with fail
            refine Calls.mono CM.out ?_
            rintro e w1 ⟨rfl, rfl⟩
            go_wp2_with fail
            go_ret
            exact ⟨by rw [HV.out]; rfl, HB5.out⟩
          · have HM2 : Hid (kwMiss k n (1 + 1)) := by
              rcases HM.out with h | ⟨a1, a2, a3, a4⟩
              · exact hide (.inl h)
              · exact hide (.inr ⟨fun h => a1 (by omega), fun h => h1, fun h => by omega, fun h => by omega⟩)
            clear HM CM h0 h0b h1
            go_wp2_with fail
            rw [kw_idx1]
            go_wp2_with fail
            go_round
            case rel => exact ⟨1 + 1, by omega, by go_num, HL5, HX5, HB5, HM2⟩
            case measure => simp [intOf]
        · have HM2 : Hid (kwMiss k n (1 + 1)) := hide (.inl h0)
          clear HM CM h0
          go_wp2_with fail
          rw [kw_idx1]
          go_wp2_with fail
          go_round
          case rel => exact ⟨1 + 1, by omega, by go_num, HL5, HX5, HB5, HM2⟩
          case measure => simp [intOf]
      · have HL4 := (HL.out).alloc (.cells #[.int .i64 5, .int .i64 0, .int .i64 8, .string ⟨#[109, 97, 120, 45, 99, 111, 110, 116, 101, 110, 116]⟩] 44)
        have HX4 := boxed_alloc HX.out (.cells #[.int .i64 5, .int .i64 0, .int .i64 8, .string ⟨#[109, 97, 120, 45, 99, 111, 110, 116, 101, 110, 116]⟩] 44)
        have hB4 := hB.alloc hB.size (.cells #[.int .i64 5, .int .i64 0, .int .i64 8, .string ⟨#[109, 97, 120, 45, 99, 111, 110, 116, 101, 110, 116]⟩] 44)
        have l0' := HL4.c0
        have l1' := HL4.c1
        have cm := may_any 8 a _ _ (by unfold isBit; omega) HX4
        have CM := hide cm
        have HL5 := hide HL4
        have HX5 := hide HX4
        have HB5 := hide hB4
        clear cm HL4 HX4 hB4 hB HL HX HB
        rcases eqk n 0 with ⟨h0, h0b⟩ | ⟨h0, h0b⟩
        · rcases eqk k 5 with ⟨h1, h1b⟩ | ⟨h1, h1b⟩
          · have hv : goodV k n a = hasB a 8 := by subst h1 h0; rfl
            have HV := hide hv
            clear hv HM h1 h0
            go_wp2_with fail
            rw [kw_idx2]
            go_wp2_with fail
            refine Calls.mono CM.out ?_
            rintro e w1 ⟨rfl, rfl⟩
            go_wp2_with fail
            go_ret
            exact ⟨by rw [HV.out]; rfl, HB5.out⟩
          · have HM2 : Hid (kwMiss k n (2 + 1)) := by
              rcases HM.out with h | ⟨a1, a2, a3, a4⟩
              · exact hide (.inl h)
              · exact hide (.inr ⟨fun h => a1 (by omega), fun h => a2 (by omega), fun h => h1, fun h => by omega⟩)
            clear HM CM h0 h0b h1
            go_wp2_with fail
            rw [kw_idx2]
            go_wp2_with fail
            go_round
            case rel => exact ⟨2 + 1, by omega, by go_num, HL5, HX5, HB5, HM2⟩
            case measure => simp [intOf]
        · have HM2 : Hid (kwMiss k n (2 + 1)) := hide (.inl h0)
          clear HM CM h0
          go_wp2_with fail
          rw [kw_idx2]
          go_wp2_with fail
          go_round
          case rel => exact ⟨2 + 1, by omega, by go_num, HL5, HX5, HB5, HM2⟩
          case measure => simp [intOf]
      · have HL4 := (HL.out).alloc (.cells #[.int .i64 7, .int .i64 0, .int .i64 32, .string ⟨#[110, 111, 110, 101]⟩] 44)
        have HX4 := boxed_alloc HX.out (.cells #[.int .i64 7, .int .i64 0, .int .i64 32, .string ⟨#[110, 111, 110, 101]⟩] 44)
        have hB4 := hB.alloc hB.size (.cells #[.int .i64 7, .int .i64 0, .int .i64 32, .string ⟨#[110, 111, 110, 101]⟩] 44)
        have l0' := HL4.c0
        have l1' := HL4.c1
        have cm := may_any 32 a _ _ (by unfold isBit; omega) HX4
        have CM := hide cm
        have HL5 := hide HL4
        have HX5 := hide HX4
        have HB5 := hide hB4
        clear cm HL4 HX4 hB4 hB HL HX HB
        rcases eqk n 0 with ⟨h0, h0b⟩ | ⟨h0, h0b⟩
        · rcases eqk k 7 with ⟨h1, h1b⟩ | ⟨h1, h1b⟩
          · have hv : goodV k n a = hasB a 32 := by subst h1 h0; rfl
            have HV := hide hv
            clear hv HM h1 h0
            go_wp2_with fail
            rw [kw_idx3]
            go_wp2_with fail
            refine Calls.mono CM.out ?_
            rintro e w1 ⟨rfl, rfl⟩
            go_wp2_with fail
            go_ret
            exact ⟨by rw [HV.out]; rfl, HB5.out⟩
          · have HM2 : Hid (kwMiss k n (3 + 1)) := by
              rcases HM.out with h | ⟨a1, a2, a3, a4⟩
              · exact hide (.inl h)
              · exact hide (.inr ⟨fun h => a1 (by omega), fun h => a2 (by omega), fun h => a3 (by omega), fun h => h1⟩)
            clear HM CM h0 h0b h1
            go_wp2_with fail
            rw [kw_idx3]
            go_wp2_with fail
            go_round
            case rel => exact ⟨3 + 1, by omega, by go_num, HL5, HX5, HB5, HM2⟩
            case measure => simp [intOf]
        · have HM2 : Hid (kwMiss k n (3 + 1)) := hide (.inl h0)
          clear HM CM h0
          go_wp2_with fail
          rw [kw_idx3]
          go_wp2_with fail
          go_round
          case rel => exact ⟨3 + 1, by omega, by go_num, HL5, HX5, HB5, HM2⟩
          case measure => simp [intOf]

theorem good_any (k n a : Int) (w : World) (hk : KW w) :
    Calls Tryz.prog 7 #[lenA k n, .int .i64 a] w fun e w' => e = .returned (.bool (goodV k n a)) ∧ Below w.heap.size w w' := by
  by_cases h2 : k = 2
  · subst h2; exact good_px n a w
  · by_cases h3 : k = 3
    · subst h3; exact good_pct n a w
    · by_cases h6 : k = 6
      · subst h6; exact good_fr n a w
      · exact good_kw k n a w hk h2 h3 h6

end Go.Proofs.YtmnmpfcfdopjnaaGreatDoor

/- A word is asked. -/
namespace Go.Proofs.YtmnmpfcfdopjnaaGreatDoor
open Go.RowKit

/-- A word as a value. -/
def tkA (k at_ : Int) (tx nm : ByteArray) : Value := .agg #[.int .i64 k, .int .i64 at_, .string tx, .string nm]
/-- A word of a kind, and its text in small letters, lie in two boxes. -/
structure AskAt (w : World) (b1 b2 : Nat) (k : Int) (low : ByteArray) : Prop where
  c0 : w.cell? ⟨b1, 0, none⟩ = some (.int .i64 k)
  c2 : w.cell? ⟨b2, 0, none⟩ = some (.string low)
  l1 : b1 < w.heap.size
  l2 : b2 < w.heap.size
theorem AskAt.below {w w' : World} {b1 b2 : Nat} {k : Int} {low : ByteArray} (h : AskAt w b1 b2 k low) (hb : Below w.heap.size w w') : AskAt w' b1 b2 k low :=
  ⟨(hb.cell (p := ⟨b1, 0, none⟩) h.l1).trans h.c0, (hb.cell (p := ⟨b2, 0, none⟩) h.l2).trans h.c2, Nat.lt_of_lt_of_le h.l1 hb.size, Nat.lt_of_lt_of_le h.l2 hb.size⟩
/-- The closure that asks. -/
def askV (b1 b2 : Nat) : Value := .func (.func 54) #[] #[.pointer (some ⟨b1, 0, none⟩), .pointer (some ⟨b2, 0, none⟩)]

set_option maxRecDepth 100000 in
set_option maxHeartbeats 2000000 in
theorem asker_any (k at_ : Int) (tx nm : ByteArray) (w : World) (hs : tx.size ≤ 100000) :
    Calls Tryz.prog 36 #[tkA k at_ tx nm] w fun e w' => ∃ b1 b2, e = .returned (askV b1 b2) ∧ AskAt w' b1 b2 k (lowV tx) ∧ Below w.heap.size w w' := by
  have hb0 : Below w.heap.size w (w.alloc (.cells #[.int .i64 k, .int .i64 at_, .string tx, .string nm] 56)) := (Below.refl _ w).alloc (Nat.le_refl _) _
  have cl := lower_any tx (w.alloc (.cells #[.int .i64 k, .int .i64 at_, .string tx, .string nm] 56)) hs
  have CL := hide cl
  clear cl
  unfold tkA
  go_enter Tryz.func36, Tryz.ntmps36
  go_wp2_with fail
  refine Calls.mono CL.out ?_
  rintro e w1 ⟨rfl, hb1⟩
  have k0 : w1.cell? ⟨w.heap.size, 0, none⟩ = some (.int .i64 k) := (hb1.cell (p := ⟨w.heap.size, 0, none⟩) (by simp)).trans (by simp)
  have hlt : w.heap.size < w1.heap.size := Nat.lt_of_lt_of_le (by simp) hb1.size
  have hB := hb0.trans (hb1.mono hb0.size)
  have HB := hide hB
  have K0 := hide k0
  clear CL hb0 hb1 hB k0
  go_wp2_with fail
  go_ret
  refine ⟨w.heap.size, w1.heap.size, rfl, ⟨?_, ?_, ?_, ?_⟩, ?_⟩
  · exact (((Below.refl w1.heap.size w1).alloc (Nat.le_refl _) _).cell (p := ⟨w.heap.size, 0, none⟩) hlt).trans K0.out
  · simp
  · simp; omega
  · simp
  · exact (HB.out).alloc (HB.out).size _

/-- The texts of a literal slice. -/
def TxAt (w : World) (b : Nat) (zs : List ByteArray) : Prop := ∀ j, j < zs.length → w.cell? ⟨b, 0 + j, none⟩ = some (.string (zs.getD j ByteArray.empty))
theorem txAt_new (w : World) (t : Nat) (zs : List ByteArray) : TxAt (w.alloc (.cells (zs.map Value.string).toArray t)) w.heap.size zs := by
  intro j hj
  rw [Lib.cell_of_heap (heap_alloc_new w _)]
  simp [hj]

set_option maxRecDepth 100000 in
set_option maxHeartbeats 2000000 in
theorem ask_any (x k : Int) (b b1 b2 n : Nat) (zs : List ByteArray) (low : ByteArray) (w : World) (h : AskAt w b1 b2 k low) (ht : TxAt w b zs) (hn : n = zs.length) (hz : zs.length ≤ 1000) :
    Calls Tryz.prog 54 #[.int .i64 x, .slice (some ⟨b, 0, none⟩) n n, .pointer (some ⟨b1, 0, none⟩), .pointer (some ⟨b2, 0, none⟩)] w fun e w' => e = .returned (.bool (decide (k = x) && Lib.containsS zs low)) ∧ w' = w := by
  subst hn
  have c0 := h.c0
  have c2 := h.c2
  have cc := Tryz.slices_Contains_string b 0 zs.length zs.length zs low w (Nat.le_refl _) (by omega) ht
  rw [List.take_length] at cc
  have CC := hide cc
  clear cc h ht
  rcases eqk k x with ⟨h1, h1b⟩ | ⟨h1, h1b⟩
  · subst h1
    go_enter Tryz.func54, Tryz.ntmps54
    go_wp2_with fail
    refine Calls.mono CC.out ?_
    rintro e w1 ⟨rfl, rfl⟩
    go_wp2_with fail
    go_ret
    exact ⟨by simp, rfl⟩
  · have hd : decide (k = x) = false := by simp [h1]
    rw [hd]
    clear h1 hd CC
    go_enter Tryz.func54, Tryz.ntmps54
    go_wp2_with fail
    go_ret
    exact ⟨rfl, rfl⟩

end Go.Proofs.YtmnmpfcfdopjnaaGreatDoor

/- Words that mean something else in CSS. -/
namespace Go.Proofs.YtmnmpfcfdopjnaaGreatDoor
open Go.RowKit

def dimsF : List ByteArray := [⟨#[101, 109]⟩, ⟨#[114, 101, 109]⟩, ⟨#[101, 120]⟩, ⟨#[99, 104]⟩, ⟨#[118, 119]⟩, ⟨#[118, 104]⟩, ⟨#[118, 109, 105, 110]⟩, ⟨#[118, 109, 97, 120]⟩, ⟨#[99, 109]⟩, ⟨#[109, 109]⟩, ⟨#[113]⟩, ⟨#[105, 110]⟩, ⟨#[112, 99]⟩, ⟨#[112, 116]⟩]
def funcsF : List ByteArray := [⟨#[99, 97, 108, 99]⟩, ⟨#[109, 105, 110]⟩, ⟨#[109, 97, 120]⟩, ⟨#[99, 108, 97, 109, 112]⟩, ⟨#[101, 110, 118]⟩, ⟨#[118, 97, 114]⟩]
def identsF : List ByteArray := [⟨#[105, 110, 104, 101, 114, 105, 116]⟩, ⟨#[105, 110, 105, 116, 105, 97, 108]⟩, ⟨#[117, 110, 115, 101, 116]⟩, ⟨#[114, 101, 118, 101, 114, 116]⟩]
/-- A word that means something else in CSS. -/
def foreignB (k : Int) (low : ByteArray) : Bool := (decide (k = 5) && Lib.containsS dimsF low) || (decide (k = 2) && Lib.containsS funcsF low) || (decide (k = 1) && Lib.containsS identsF low)

theorem txAt_at (w : World) (t : Nat) (zs : List ByteArray) (b : Nat) (hb : b = w.heap.size) : TxAt (w.alloc (.cells (zs.map Value.string).toArray t)) b zs := by subst hb; exact txAt_new w t zs

set_option maxRecDepth 100000 in
set_option maxHeartbeats 4000000 in
theorem isForeign_any (k : Int) (b1 b2 : Nat) (low : ByteArray) (w : World) (h : AskAt w b1 b2 k low) :
    Calls Tryz.prog 37 #[askV b1 b2] w fun e w' => e = .returned (.bool (foreignB k low)) ∧ Below w.heap.size w w' := by
  have b1' : Below w.heap.size w (w.alloc (.cells #[.string ⟨#[101, 109]⟩, .string ⟨#[114, 101, 109]⟩, .string ⟨#[101, 120]⟩, .string ⟨#[99, 104]⟩, .string ⟨#[118, 119]⟩, .string ⟨#[118, 104]⟩, .string ⟨#[118, 109, 105, 110]⟩, .string ⟨#[118, 109, 97, 120]⟩, .string ⟨#[99, 109]⟩, .string ⟨#[109, 109]⟩, .string ⟨#[113]⟩, .string ⟨#[105, 110]⟩, .string ⟨#[112, 99]⟩, .string ⟨#[112, 116]⟩] 9)) := (Below.refl _ w).alloc (Nat.le_refl _) _
  have b2' := b1'.alloc b1'.size (.cells #[.string ⟨#[99, 97, 108, 99]⟩, .string ⟨#[109, 105, 110]⟩, .string ⟨#[109, 97, 120]⟩, .string ⟨#[99, 108, 97, 109, 112]⟩, .string ⟨#[101, 110, 118]⟩, .string ⟨#[118, 97, 114]⟩] 9)
  have b3' := b2'.alloc b2'.size (.cells #[.string ⟨#[105, 110, 104, 101, 114, 105, 116]⟩, .string ⟨#[105, 110, 105, 116, 105, 97, 108]⟩, .string ⟨#[117, 110, 115, 101, 116]⟩, .string ⟨#[114, 101, 118, 101, 114, 116]⟩] 9)
  have t1 : TxAt (w.alloc (.cells #[.string ⟨#[101, 109]⟩, .string ⟨#[114, 101, 109]⟩, .string ⟨#[101, 120]⟩, .string ⟨#[99, 104]⟩, .string ⟨#[118, 119]⟩, .string ⟨#[118, 104]⟩, .string ⟨#[118, 109, 105, 110]⟩, .string ⟨#[118, 109, 97, 120]⟩, .string ⟨#[99, 109]⟩, .string ⟨#[109, 109]⟩, .string ⟨#[113]⟩, .string ⟨#[105, 110]⟩, .string ⟨#[112, 99]⟩, .string ⟨#[112, 116]⟩] 9)) w.heap.size dimsF := txAt_new w 9 dimsF
  have t2 : TxAt ((w.alloc (.cells #[.string ⟨#[101, 109]⟩, .string ⟨#[114, 101, 109]⟩, .string ⟨#[101, 120]⟩, .string ⟨#[99, 104]⟩, .string ⟨#[118, 119]⟩, .string ⟨#[118, 104]⟩, .string ⟨#[118, 109, 105, 110]⟩, .string ⟨#[118, 109, 97, 120]⟩, .string ⟨#[99, 109]⟩, .string ⟨#[109, 109]⟩, .string ⟨#[113]⟩, .string ⟨#[105, 110]⟩, .string ⟨#[112, 99]⟩, .string ⟨#[112, 116]⟩] 9)).alloc (.cells #[.string ⟨#[99, 97, 108, 99]⟩, .string ⟨#[109, 105, 110]⟩, .string ⟨#[109, 97, 120]⟩, .string ⟨#[99, 108, 97, 109, 112]⟩, .string ⟨#[101, 110, 118]⟩, .string ⟨#[118, 97, 114]⟩] 9)) (w.heap.size + 1) funcsF := txAt_at _ 9 funcsF _ (by simp)
  have t3 : TxAt (((w.alloc (.cells #[.string ⟨#[101, 109]⟩, .string ⟨#[114, 101, 109]⟩, .string ⟨#[101, 120]⟩, .string ⟨#[99, 104]⟩, .string ⟨#[118, 119]⟩, .string ⟨#[118, 104]⟩, .string ⟨#[118, 109, 105, 110]⟩, .string ⟨#[118, 109, 97, 120]⟩, .string ⟨#[99, 109]⟩, .string ⟨#[109, 109]⟩, .string ⟨#[113]⟩, .string ⟨#[105, 110]⟩, .string ⟨#[112, 99]⟩, .string ⟨#[112, 116]⟩] 9)).alloc (.cells #[.string ⟨#[99, 97, 108, 99]⟩, .string ⟨#[109, 105, 110]⟩, .string ⟨#[109, 97, 120]⟩, .string ⟨#[99, 108, 97, 109, 112]⟩, .string ⟨#[101, 110, 118]⟩, .string ⟨#[118, 97, 114]⟩] 9)).alloc (.cells #[.string ⟨#[105, 110, 104, 101, 114, 105, 116]⟩, .string ⟨#[105, 110, 105, 116, 105, 97, 108]⟩, .string ⟨#[117, 110, 115, 101, 116]⟩, .string ⟨#[114, 101, 118, 101, 114, 116]⟩] 9)) (w.heap.size + 1 + 1) identsF := txAt_at _ 9 identsF _ (by simp)
  have c1 := ask_any 5 k w.heap.size b1 b2 14 dimsF low _ (h.below b1') t1 rfl (by decide)
  have c2 := ask_any 2 k (w.heap.size + 1) b1 b2 6 funcsF low _ (h.below b2') t2 rfl (by decide)
  have c3 := ask_any 1 k (w.heap.size + 1 + 1) b1 b2 4 identsF low _ (h.below b3') t3 rfl (by decide)
  unfold foreignB
  generalize (decide (k = 5) && Lib.containsS dimsF low) = A at *
  generalize (decide (k = 2) && Lib.containsS funcsF low) = B at *
  generalize (decide (k = 1) && Lib.containsS identsF low) = C at *
  have C1 := hide c1
  have C2 := hide c2
  have C3 := hide c3
  have HB1 := hide b1'
  have HB2 := hide b2'
  have HB3 := hide b3'
  clear b1' b2' b3' t1 t2 t3 c1 c2 c3 h
  unfold askV
  cases A <;> cases B <;> cases C <;> (
    go_enter Tryz.func37, Tryz.ntmps37
    go_wp2_with fail
    refine Calls.mono C1.out ?_
    rintro e w1 ⟨rfl, rfl⟩
    go_wp2_with fail
    try (refine Calls.mono C2.out ?_; rintro e w1 ⟨rfl, rfl⟩; go_wp2_with fail)
    try (refine Calls.mono C3.out ?_; rintro e w1 ⟨rfl, rfl⟩; go_wp2_with fail)
    go_ret
    exact ⟨rfl, by first | exact HB1.out | exact HB2.out | exact HB3.out⟩)

end Go.Proofs.YtmnmpfcfdopjnaaGreatDoor

/- A size of a number's text. -/
namespace Go.Proofs.YtmnmpfcfdopjnaaGreatDoor
open Go.RowKit

/-- A size of a number's text, and the error. -/
def measV (num : ByteArray) (k sc a : Int) : (Int × Int) × Int :=
  if (valueV num sc).2 = 0 then
    if goodV k (valueV num sc).1 a = true then ((k, (valueV num sc).1), 0) else if (valueV num sc).1 < 0 then ((0, 0), 50) else ((0, 0), 10)
  else ((0, 0), (valueV num sc).2)
/-- A size and an error, as they are answered. -/
def lenE (r : (Int × Int) × Int) : Value := .tuple #[lenA r.1.1 r.1.2, .int .i64 r.2]

theorem LenAt.new (w : World) (k n : Int) : LenAt (w.alloc (.cells #[.int .i64 k, .int .i64 n] 23)) w.heap.size k n := heap_alloc_new w _
theorem LenAt.z {w : World} {b : Nat} {k n : Int} (h : LenAt w b k n) (i : Nat) : w.frozen? ⟨b, i, none⟩ = false := Lib.frozen_of_heap h i

theorem below_two {B b : Nat} {w w' : World} (h : Below B w w') (hb : B ≤ b) (x y : Value) : Below B w ((w'.setCell ⟨b, 0, none⟩ x).setCell ⟨b, 1, none⟩ y) := (h.setCell (p := ⟨b, 0, none⟩) hb x).setCell (p := ⟨b, 1, none⟩) hb y

set_option maxRecDepth 100000 in
set_option maxHeartbeats 4000000 in
theorem measured_any (num : ByteArray) (k sc a : Int) (w : World) (hk : KW w) (hs : num.size ≤ 9223372036854775000) :
    Calls Tryz.prog 38 #[.string num, .int .i64 k, .int .i64 sc, .int .i64 a] w fun e w' => e = .returned (lenE (measV num k sc a)) ∧ Below w.heap.size w w' := by
  have hz := LenAt.new w 0 0
  have hb0 : Below w.heap.size w (w.alloc (.cells #[.int .i64 0, .int .i64 0] 23)) := (Below.refl _ w).alloc (Nat.le_refl _) _
  have cv := value_any num sc (w.alloc (.cells #[.int .i64 0, .int .i64 0] 23)) hs
  have hm : measV num k sc a = if (valueV num sc).2 = 0 then if goodV k (valueV num sc).1 a = true then ((k, (valueV num sc).1), 0) else if (valueV num sc).1 < 0 then ((0, 0), 50) else ((0, 0), 10) else ((0, 0), (valueV num sc).2) := rfl
  have HM := hide hm
  clear hm
  generalize (valueV num sc).1 = n at *
  generalize (valueV num sc).2 = e at *
  have CV := hide cv
  have HZ := hide hz
  have HK := hide hk
  clear cv hz hk
  go_enter Tryz.func38, Tryz.ntmps38
  go_wp2_with fail
  refine Calls.mono CV.out ?_
  rintro e1 w1 ⟨rfl, hb1⟩
  have hZ1 := (HZ.out).below hb1 (by simp)
  have hB1 := hb0.trans (hb1.mono hb0.size)
  have hZ2 := hZ1.alloc (.cells #[.int .i64 k, .int .i64 n] 23)
  have hB2 := hB1.alloc hB1.size (.cells #[.int .i64 k, .int .i64 n] 23)
  have hV2 := LenAt.new w1 k n
  have hlt : w.heap.size < w1.heap.size := hZ1.lt
  have hK2 := (HK.out).below hB2
  have z0 := hZ2.c0
  have z1 := hZ2.c1
  have zz := hZ2.z
  have v0 := hV2.c0
  have v1 := hV2.c1
  have HZ2 := hide hZ2
  have HB2 := hide hB2
  have HK2 := hide hK2
  have hne : ¬ w.heap.size = w1.heap.size := by omega
  have hne' : ¬ w1.heap.size = w.heap.size := by omega
  clear HZ hZ1 hB1 hZ2 hB2 hV2 hK2 CV HK hb0 hb1
  rcases eqk e 0 with ⟨h0, h0b⟩ | ⟨h0, h0b⟩
  · subst h0
    clear h0b
    have cg := good_any k n a _ HK2.out
    have hm := HM.out
    rw [if_pos rfl] at hm
    have HVV := hide (LenAt.new w1 k n)
    cases hg : goodV k n a
    · rw [hg, if_neg (by simp)] at hm
      rw [hg] at cg
      have CG := hide cg
      clear cg hg HM
      by_cases hn : n < 0
      · rw [if_pos hn] at hm
        have HM2 := hide hm
        clear hm
        go_wp2_with fail
        refine Calls.mono CG.out ?_
        rintro e2 w2 ⟨rfl, hb2⟩
        have hZ3 := (HZ2.out).below hb2 (HZ2.out).lt
        have hB3 := (HB2.out).trans (hb2.mono (HB2.out).size)
        have hV3 := (HVV.out).below hb2 (HVV.out).lt
        have y0 := hZ3.c0
        have y1 := hZ3.c1
        have yz := hZ3.z
        have x0 := hV3.c0
        have x1 := hV3.c1
        have HB3 := hide hB3
        clear CG hb2 hZ3 hB3 hV3 z0 z1 zz v0 v1
        go_wp2_with fail
        refine bodyPost_ret (v := lenE (measV num k sc a)) (by rw [HM2.out]; simp [results, Tryz.results38, go_sem, y0, y1, lenE, lenA]) rfl ⟨rfl, below_two HB3.out (Nat.le_refl _) _ _⟩
      · rw [if_neg hn] at hm
        have HM2 := hide hm
        clear hm
        go_wp2_with fail
        refine Calls.mono CG.out ?_
        rintro e2 w2 ⟨rfl, hb2⟩
        have hZ3 := (HZ2.out).below hb2 (HZ2.out).lt
        have hB3 := (HB2.out).trans (hb2.mono (HB2.out).size)
        have hV3 := (HVV.out).below hb2 (HVV.out).lt
        have y0 := hZ3.c0
        have y1 := hZ3.c1
        have yz := hZ3.z
        have x0 := hV3.c0
        have x1 := hV3.c1
        have HB3 := hide hB3
        clear CG hb2 hZ3 hB3 hV3 z0 z1 zz v0 v1
        go_wp2_with fail
        refine bodyPost_ret (v := lenE (measV num k sc a)) (by rw [HM2.out]; simp [results, Tryz.results38, go_sem, y0, y1, lenE, lenA]) rfl ⟨rfl, below_two HB3.out (Nat.le_refl _) _ _⟩
    · rw [hg, if_pos rfl] at hm
      rw [hg] at cg
      have CG := hide cg
      have HM2 := hide hm
      clear cg hg HM hm
      go_wp2_with fail
      refine Calls.mono CG.out ?_
      rintro e2 w2 ⟨rfl, hb2⟩
      have hZ3 := (HZ2.out).below hb2 (HZ2.out).lt
      have hB3 := (HB2.out).trans (hb2.mono (HB2.out).size)
      have hV3 := (HVV.out).below hb2 (HVV.out).lt
      have y0 := hZ3.c0
      have y1 := hZ3.c1
      have yz := hZ3.z
      have x0 := hV3.c0
      have x1 := hV3.c1
      have HB3 := hide hB3
      clear CG hb2 hZ3 hB3 hV3 z0 z1 zz v0 v1
      go_wp2_with fail
      refine bodyPost_ret (v := lenE (measV num k sc a)) (by rw [HM2.out]; simp [results, Tryz.results38, go_sem, y0, y1, lenE, lenA]) rfl ⟨rfl, below_two HB3.out (Nat.le_refl _) _ _⟩
  · have hm := HM.out
    rw [if_neg h0] at hm
    have HM2 := hide hm
    have hne0 : (e != 0) = true := by rw [bne, h0b]; rfl
    clear hm HM h0
    go_upto_region 4 with fail
    generalize w1.alloc (.cells #[.int .i64 k, .int .i64 n] 23) = w3 at *
    go_wp2_with fail
    refine bodyPost_ret (v := lenE (measV num k sc a)) (by rw [HM2.out]; simp [results, Tryz.results38, go_sem, z0, z1, lenE, lenA]) rfl ⟨rfl, below_two HB2.out (Nat.le_refl _) _ _⟩

end Go.Proofs.YtmnmpfcfdopjnaaGreatDoor

/- The size that a word is. -/
namespace Go.Proofs.YtmnmpfcfdopjnaaGreatDoor
open Go.RowKit

def pxB : ByteArray := ⟨#[112, 120]⟩
def frB : ByteArray := ⟨#[102, 114]⟩
def autoB : ByteArray := ⟨#[97, 117, 116, 111]⟩
def minB : ByteArray := ⟨#[109, 105, 110, 45, 99, 111, 110, 116, 101, 110, 116]⟩
def maxB : ByteArray := ⟨#[109, 97, 120, 45, 99, 111, 110, 116, 101, 110, 116]⟩
def noneT : ByteArray := ⟨#[110, 111, 110, 101]⟩
/-- A number is 0, but for its exponent. -/
def nought (s : ByteArray) : Bool := ((s.data.toList.takeWhile fun c => !(c == 101 || c == 69)).all fun c => c == 43 || c == 45 || c == 46 || c == 48)
/-- The size that a keyword is. -/
def keyV (low : ByteArray) (a : Int) : (Int × Int) × Int :=
  if low = autoB ∧ hasB a 4 = true then ((1, 0), 0) else if low = minB ∧ hasB a 8 = true then ((4, 0), 0) else if low = maxB ∧ hasB a 8 = true then ((5, 0), 0)
  else if low = noneT ∧ hasB a 32 = true then ((7, 0), 0) else ((0, 0), 50)
/-- The size that a word is, and the error. -/
def sizeV (k : Int) (low num : ByteArray) (a : Int) : (Int × Int) × Int :=
  if foreignB k low = true then ((0, 0), 51)
  else if k = 5 ∧ low = pxB then measV num 2 64 a
  else if k = 3 ∧ nought num = true then ((2, 0), 0)
  else if k = 4 ∧ hasB a 1 = true then measV num 3 1000 a
  else if k = 5 ∧ low = frB ∧ hasB a 16 = true then measV num 6 1000 a
  else if k = 1 then keyV low a
  else ((0, 0), 50)

/-- The words of a list. -/
structure Tks (w : World) (v : Value) (l : List ((Int × Int) × ByteArray × ByteArray)) : Prop where
  val : l = [] ∧ (∃ ao cap, v = .slice ao 0 cap) ∨ ∃ b off cap, v = .slice (some ⟨b, off, none⟩) l.length cap ∧ b < w.heap.size ∧ ∀ i x, l[i]? = some x →
    w.cell? ⟨b, off + i * 4, none⟩ = some (.int .i64 x.1.1) ∧ w.cell? ⟨b, off + i * 4 + 1, none⟩ = some (.int .i64 x.1.2) ∧ w.cell? ⟨b, off + i * 4 + 2, none⟩ = some (.string x.2.1) ∧ w.cell? ⟨b, off + i * 4 + 3, none⟩ = some (.string x.2.2)
theorem Tks.below {w w' : World} {v : Value} {l : List ((Int × Int) × ByteArray × ByteArray)} (h : Tks w v l) (hb : Below w.heap.size w w') : Tks w' v l := by
  refine ⟨?_⟩
  rcases h.val with h | ⟨b, off, cap, hv, hlt, hc⟩
  · exact .inl h
  · refine .inr ⟨b, off, cap, hv, Nat.lt_of_lt_of_le hlt hb.size, fun i x hx => ?_⟩
    obtain ⟨a0, a1, a2, a3⟩ := hc i x hx
    exact ⟨(hb.cell (p := ⟨b, _, none⟩) hlt).trans a0, (hb.cell (p := ⟨b, _, none⟩) hlt).trans a1, (hb.cell (p := ⟨b, _, none⟩) hlt).trans a2, (hb.cell (p := ⟨b, _, none⟩) hlt).trans a3⟩
/-- The word at a place. -/
def tkV (l : List ((Int × Int) × ByteArray × ByteArray)) (at_ : Int) : (Int × Int) × ByteArray × ByteArray :=
  if at_ < 0 then ((8, 0), ⟨#[]⟩, ⟨#[]⟩) else l.getD at_.toNat ((8, 0), ⟨#[]⟩, ⟨#[]⟩)
def tkW (x : (Int × Int) × ByteArray × ByteArray) : Value := tkA x.1.1 x.1.2 x.2.1 x.2.2

theorem below_four {B b : Nat} {w w' : World} (h : Below B w w') (hb : B ≤ b) (x y z u : Value) : Below B w ((((w'.setCell ⟨b, 0, none⟩ x).setCell ⟨b, 1, none⟩ y).setCell ⟨b, 2, none⟩ z).setCell ⟨b, 3, none⟩ u) :=
  (((h.setCell (p := ⟨b, 0, none⟩) hb x).setCell (p := ⟨b, 1, none⟩) hb y).setCell (p := ⟨b, 2, none⟩) hb z).setCell (p := ⟨b, 3, none⟩) hb u

set_option maxRecDepth 100000 in
set_option maxHeartbeats 4000000 in
theorem wordAt_any (l : List ((Int × Int) × ByteArray × ByteArray)) (at_ : Int) (v : Value) (w : World) (h : Tks w v l) (hl : l.length ≤ 1000000) :
    Calls Tryz.prog 24 #[v, .int .i64 at_] w fun e w' => e = .returned (tkW (tkV l at_)) ∧ Below w.heap.size w w' := by
  have hz := TkAt.new w 0 0 ⟨#[]⟩ ⟨#[]⟩
  have hb0 : Below w.heap.size w (w.alloc (.cells #[.int .i64 0, .int .i64 0, .string ⟨#[]⟩, .string ⟨#[]⟩] 56)) := (Below.refl _ w).alloc (Nat.le_refl _) _
  have z0 := hz.c0
  have z1 := hz.c1
  have z2 := hz.c2
  have z3 := hz.c3
  have zz := hz.z
  have HB := hide hb0
  by_cases hn : at_ < 0
  · have hv : tkV l at_ = ((8, 0), ⟨#[]⟩, ⟨#[]⟩) := by unfold tkV; rw [if_pos hn]
    rw [hv]
    obtain ⟨ao, n, cap, rfl⟩ : ∃ ao n cap, v = .slice ao n cap := by
      rcases h.val with ⟨_, ao, cap, h⟩ | ⟨b, off, cap, h, _⟩
      · exact ⟨_, _, _, h⟩
      · exact ⟨_, _, _, h⟩
    clear h hv hz hb0
    go_enter Tryz.func24, Tryz.ntmps24
    go_upto_region 1 with fail
    generalize w.alloc (.cells #[.int .i64 0, .int .i64 0, .string ⟨#[]⟩, .string ⟨#[]⟩] 56) = w3 at *
    go_wp2_with fail
    refine bodyPost_ret (v := tkW ((8, 0), ⟨#[]⟩, ⟨#[]⟩)) (by simp [results, Tryz.results24, go_sem, z0, z1, z2, z3, tkW, tkA]) rfl ⟨rfl, below_four HB.out (Nat.le_refl _) _ _ _ _⟩
  · obtain ⟨i, rfl⟩ := Int.eq_ofNat_of_zero_le (show 0 ≤ at_ by omega)
    by_cases hi : i < l.length
    · obtain ⟨x, hx⟩ : ∃ x, l[i]? = some x := ⟨_, List.getElem?_eq_getElem hi⟩
      have hv : tkV l (i : Int) = x := by unfold tkV; rw [if_neg hn]; simp [List.getD, hx]
      rw [hv]
      rcases h.val with ⟨rfl, _⟩ | ⟨b, off, cap, rfl, hlt, hc⟩
      · simp at hi
      obtain ⟨a0, a1, a2, a3⟩ := hc i x hx
      have e0 := (hb0.cell (p := ⟨b, _, none⟩) hlt).trans a0
      have e1 := (hb0.cell (p := ⟨b, _, none⟩) hlt).trans a1
      have e2 := (hb0.cell (p := ⟨b, _, none⟩) hlt).trans a2
      have e3 := (hb0.cell (p := ⟨b, _, none⟩) hlt).trans a3
      have hii : (i : Int) < (l.length : Int) := by omega
      have hne : ¬ b = w.heap.size := by omega
      generalize l.length = n at *
      clear h hv hz hb0 hc hx a0 a1 a2 a3
      go_enter Tryz.func24, Tryz.ntmps24
      go_upto_region 1 with fail
      generalize w.alloc (.cells #[.int .i64 0, .int .i64 0, .string ⟨#[]⟩, .string ⟨#[]⟩] 56) = w3 at *
      go_wp2_with fail
      refine bodyPost_ret (v := tkW x) (by simp [results, Tryz.results24, go_sem, z0, z1, z2, z3, tkW, tkA]) rfl ⟨rfl, below_four HB.out (Nat.le_refl _) _ _ _ _⟩
    · have hv : tkV l (i : Int) = ((8, 0), ⟨#[]⟩, ⟨#[]⟩) := by unfold tkV; rw [if_neg hn]; simp [List.getD, hi]
      rw [hv]
      obtain ⟨ao, cap, rfl⟩ : ∃ ao cap, v = .slice ao l.length cap := by
        rcases h.val with ⟨h0, ao, cap, h⟩ | ⟨b, off, cap, h, _⟩
        · exact ⟨_, _, by rw [h0]; exact h⟩
        · exact ⟨_, _, h⟩
      have hii : ¬ (i : Int) < (l.length : Int) := by omega
      generalize l.length = n at *
      clear h hv hz hb0
      go_enter Tryz.func24, Tryz.ntmps24
      go_upto_region 1 with fail
      generalize w.alloc (.cells #[.int .i64 0, .int .i64 0, .string ⟨#[]⟩, .string ⟨#[]⟩] 56) = w3 at *
      go_wp2_with fail
      refine bodyPost_ret (v := tkW ((8, 0), ⟨#[]⟩, ⟨#[]⟩)) (by simp [results, Tryz.results24, go_sem, z0, z1, z2, z3, tkW, tkA]) rfl ⟨rfl, below_four HB.out (Nat.le_refl _) _ _ _ _⟩

end Go.Proofs.YtmnmpfcfdopjnaaGreatDoor

/- The size that a word is, walked. -/
namespace Go.Proofs.YtmnmpfcfdopjnaaGreatDoor
open Go.RowKit

/-- What size has made, and nothing else of what was there has turned. -/
structure SizeSt (w wr : World) (b1 b2 : Nat) (k at_ : Int) (tx nm : ByteArray) : Prop where
  tk : TkAt w.heap.size k at_ tx nm wr
  len : LenAt wr (w.heap.size + 1) 0 0
  ask : AskAt wr b1 b2 k (lowV tx)
  kw : KW wr
  bel : Below w.heap.size w wr
theorem SizeSt.next {w wr wr' : World} {b1 b2 : Nat} {k at_ : Int} {tx nm : ByteArray} (h : SizeSt w wr b1 b2 k at_ tx nm) (hb : Below wr.heap.size wr wr') : SizeSt w wr' b1 b2 k at_ tx nm :=
  ⟨h.tk.below hb h.tk.lt, h.len.below hb h.len.lt, h.ask.below hb, h.kw.below hb, h.bel.trans (hb.mono h.bel.size)⟩
theorem SizeSt.alloc {w wr : World} {b1 b2 : Nat} {k at_ : Int} {tx nm : ByteArray} (h : SizeSt w wr b1 b2 k at_ tx nm) (o : Obj) : SizeSt w (wr.alloc o) b1 b2 k at_ tx nm := h.next ((Below.refl _ wr).alloc (Nat.le_refl _) o)
/-- Whether the word is of a kind and a text. -/
theorem SizeSt.asks {w wr : World} {b1 b2 : Nat} {k at_ : Int} {tx nm : ByteArray} (h : SizeSt w wr b1 b2 k at_ tx nm) (x : Int) (t : ByteArray) :
    Calls Tryz.prog 54 #[.int .i64 x, .slice (some ⟨wr.heap.size, 0, none⟩) 1 1, .pointer (some ⟨b1, 0, none⟩), .pointer (some ⟨b2, 0, none⟩)] (wr.alloc (.cells #[.string t] 9)) fun e w' => e = .returned (.bool (decide (k = x ∧ lowV tx = t))) ∧ w' = wr.alloc (.cells #[.string t] 9) := by
  have c := ask_any x k wr.heap.size b1 b2 1 [t] (lowV tx) (wr.alloc (.cells #[.string t] 9)) (h.alloc _).ask (txAt_new wr 9 [t]) rfl (by simp)
  have e : (decide (k = x) && Lib.containsS [t] (lowV tx)) = decide (k = x ∧ lowV tx = t) := by
    have : Lib.containsS [t] (lowV tx) = decide (lowV tx = t) := by
      unfold Lib.containsS Lib.idxOfS
      by_cases h : lowV tx = t
      · simp [Lib.idxFromS, h]
      · simp [Lib.idxFromS, h, Ne.symm h]
    rw [this]
    by_cases h1 : k = x <;> by_cases h2 : lowV tx = t <;> simp [h1, h2]
  rw [e] at c
  exact c

theorem size_begins (k at_ : Int) (tx nm : ByteArray) (w : World) : TkAt w.heap.size k at_ tx nm ((w.alloc (.cells #[.int .i64 k, .int .i64 at_, .string tx, .string nm] 56)).alloc (.cells #[.int .i64 0, .int .i64 0] 23)) ∧ LenAt ((w.alloc (.cells #[.int .i64 k, .int .i64 at_, .string tx, .string nm] 56)).alloc (.cells #[.int .i64 0, .int .i64 0] 23)) (w.heap.size + 1) 0 0 ∧ Below w.heap.size w ((w.alloc (.cells #[.int .i64 k, .int .i64 at_, .string tx, .string nm] 56)).alloc (.cells #[.int .i64 0, .int .i64 0] 23)) := by
  have h1 := TkAt.new w k at_ tx nm
  have h2 := LenAt.new (w.alloc (.cells #[.int .i64 k, .int .i64 at_, .string tx, .string nm] 56)) 0 0
  have b1 : Below w.heap.size w (w.alloc (.cells #[.int .i64 k, .int .i64 at_, .string tx, .string nm] 56)) := (Below.refl _ w).alloc (Nat.le_refl _) _
  have b2 := (Below.refl _ (w.alloc (.cells #[.int .i64 k, .int .i64 at_, .string tx, .string nm] 56))).alloc (Nat.le_refl _) (.cells #[.int .i64 0, .int .i64 0] 23)
  refine ⟨h1.below b2 h1.lt, ?_, b1.trans (b2.mono b1.size)⟩
  simpa using h2

theorem kv0 {a : Int} (h : hasB a 4 = true) : keyV autoB a = ((1, 0), 0) := by unfold keyV; simp [h]
theorem kv1 {a : Int} (h : hasB a 8 = true) : keyV minB a = ((4, 0), 0) := by unfold keyV; simp [autoB, minB, h]
theorem kv2 {a : Int} (h : hasB a 8 = true) : keyV maxB a = ((5, 0), 0) := by unfold keyV; simp [autoB, minB, maxB, h]
theorem kv3 {a : Int} (h : hasB a 32 = true) : keyV noneT a = ((7, 0), 0) := by unfold keyV; simp [autoB, minB, maxB, noneT, h]

/-- No keyword among the first j. -/
def szMiss (k : Int) (low : ByteArray) (a : Int) (j : Nat) : Prop := (0 < j → ¬ (k = 1 ∧ low = autoB ∧ hasB a 4 = true)) ∧ (1 < j → ¬ (k = 1 ∧ low = minB ∧ hasB a 8 = true)) ∧ (2 < j → ¬ (k = 1 ∧ low = maxB ∧ hasB a 8 = true)) ∧ (3 < j → ¬ (k = 1 ∧ low = noneT ∧ hasB a 32 = true))

set_option maxRecDepth 100000 in
set_option maxHeartbeats 8000000 in
theorem size_any (k at_ : Int) (tx nm : ByteArray) (a : Int) (w : World) (hk : KW w) (h3 : ¬ k = 3) (hs : tx.size ≤ 100000) (hn : nm.size ≤ 9223372036854775000) :
    Calls Tryz.prog 23 #[tkA k at_ tx nm, .int .i64 a] w fun e w' => e = .returned (lenE (sizeV k (lowV tx) nm a)) ∧ Below w.heap.size w w' := by
  obtain ⟨q1, q2, q3⟩ := size_begins k at_ tx nm w
  have ca := asker_any k at_ tx nm ((w.alloc (.cells #[.int .i64 k, .int .i64 at_, .string tx, .string nm] 56)).alloc (.cells #[.int .i64 0, .int .i64 0] 23)) hs
  have hsv : sizeV k (lowV tx) nm a = if foreignB k (lowV tx) = true then ((0, 0), 51) else if k = 5 ∧ lowV tx = pxB then measV nm 2 64 a else if k = 4 ∧ hasB a 1 = true then measV nm 3 1000 a else if k = 5 ∧ lowV tx = frB ∧ hasB a 16 = true then measV nm 6 1000 a else if k = 1 then keyV (lowV tx) a else ((0, 0), 50) := by
    unfold sizeV; rw [if_neg (c := k = 3 ∧ nought nm = true) (fun h => h3 h.1)]
  have k3b : (k == 3) = false := by simp [h3]
  have HSV := hide hsv
  have CA := hide ca
  have Q1 := hide q1
  have Q2 := hide q2
  have Q3 := hide q3
  have HK := hide hk
  clear hsv ca q1 q2 q3 hk h3
  unfold tkA
  unfold tkA at CA
  go_enter Tryz.func23, Tryz.ntmps23
  go_wp2_with fail
  refine Calls.mono CA.out ?_
  rintro e0 w1 ⟨b1, b2, rfl, hA, hb1⟩
  have st1 : SizeSt w w1 b1 b2 k at_ tx nm := ⟨(Q1.out).below hb1 (Q1.out).lt, (Q2.out).below hb1 (Q2.out).lt, hA, (HK.out).below ((Q3.out).trans (hb1.mono (Q3.out).size)), (Q3.out).trans (hb1.mono (Q3.out).size)⟩
  have cf := isForeign_any k b1 b2 (lowV tx) w1 hA
  have CF := hide cf
  have ST1 := hide st1
  unfold askV at CF ⊢
  clear cf st1 CA Q1 Q2 Q3 HK hA hb1
  go_wp2_with fail
  refine Calls.mono CF.out ?_
  rintro e0 w2 ⟨rfl, hb2⟩
  have ST2 := hide ((ST1.out).next hb2)
  clear ST1 CF hb2
  cases hfo : foreignB k (lowV tx)
  · have hsv := HSV.out
    rw [hfo, if_neg (by simp)] at hsv
    have cp := (ST2.out).asks 5 pxB
    have ST3 := hide ((ST2.out).alloc (.cells #[.string pxB] 9))
    by_cases hp : k = 5 ∧ lowV tx = pxB
    · rw [if_pos hp] at hsv
      rw [decide_eq_true hp] at cp
      have HS3 := hide hsv
      have CP := hide cp
      unfold pxB at CP ST3
      clear hsv HSV hfo cp hp k3b
      go_wp2_with fail
      refine Calls.mono CP.out ?_
      rintro e0 w3 ⟨rfl, rfl⟩
      clear CP
      have t0 := (ST3.out).tk.c0
      have t3 := (ST3.out).tk.c3
      have cm := measured_any nm 2 64 a _ (ST3.out).kw hn
      have hsz := HS3.out
      generalize measV nm 2 64 a = r at *
      obtain ⟨⟨rx, ry⟩, re⟩ := r
      unfold lenE lenA at cm
      have CM := hide cm
      have HSZ := hide hsz
      clear cm hsz HS3
      go_wp2_with fail
      refine Calls.mono CM.out ?_
      rintro e0 w4 ⟨rfl, hb4⟩
      have ST4 := hide ((ST3.out).next hb4)
      have z0 := (ST4.out).len.c0
      have z1 := (ST4.out).len.c1
      have zz := (ST4.out).len.z
      clear CM hb4 t0 t3
      go_wp2_with fail
      refine bodyPost_ret (v := lenE (sizeV k (lowV tx) nm a)) (by rw [HSZ.out]; simp [results, Tryz.results23, go_sem, z0, z1, lenE, lenA]) rfl ⟨rfl, below_two (ST4.out).bel (Nat.le_succ _) _ _⟩
    · rw [if_neg hp] at hsv
      rw [decide_eq_false hp] at cp
      have CP := hide cp
      have HS2 := hide hsv
      unfold pxB at CP ST3
      have t0 := (ST3.out).tk.c0
      clear hsv HSV hfo cp hp
      go_wp2_with fail
      refine Calls.mono CP.out ?_
      rintro e0 w3 ⟨rfl, rfl⟩
      clear CP
      go_upto_region 6 with fail
      generalize w2.alloc (.cells #[.string ⟨#[112, 120]⟩] 9) = w3 at *
      clear ST2
      have an1 := and_ne a 1 (by unfold isBit; omega)
      have an16 := and_ne a 16 (by unfold isBit; omega)
      go_upto_region 8 with fail
      go_cut [35] (fun t wx => t = .bool (decide (k = 4 ∧ hasB a 1 = true)) ∧ wx = w3)
      case first =>
        clear an16 HS2 ST3
        rcases eqk k 4 with ⟨h4, h4b⟩ | ⟨h4, h4b⟩
        · cases hh : hasB a 1
          · rw [hh] at an1
            have HD := hide (decide_eq_false (p := k = 4 ∧ hasB a 1 = true) (fun h => absurd (hh.symm.trans h.2) (by simp)))
            clear h4 hh
            go_wp2_with fail
            go_meet
            case rel => exact ⟨by rw [HD.out], rfl⟩
          · rw [hh] at an1
            have HD := hide (decide_eq_true (p := k = 4 ∧ hasB a 1 = true) ⟨h4, hh⟩)
            clear h4 hh
            go_wp2_with fail
            go_meet
            case rel => exact ⟨by rw [HD.out], rfl⟩
        · have HD := hide (decide_eq_false (p := k = 4 ∧ hasB a 1 = true) (fun h => h4 h.1))
          clear h4 an1
          go_wp2_with fail
          go_meet
          case rel => exact ⟨by rw [HD.out], rfl⟩
      case rest =>
        obtain ⟨rfl, rfl⟩ := hcut
        clear an1 t0
        by_cases h4 : k = 4 ∧ hasB a 1 = true
        · rw [decide_eq_true h4]
          have hsv := HS2.out
          rw [if_pos h4] at hsv
          have HS3 := hide hsv
          clear hsv HS2 h4 an16
          have t0 := (ST3.out).tk.c0
          have t3 := (ST3.out).tk.c3
          have cm := measured_any nm 3 1000 a _ (ST3.out).kw hn
          have hsz := HS3.out
          generalize measV nm 3 1000 a = r at *
          obtain ⟨⟨rx, ry⟩, re⟩ := r
          unfold lenE lenA at cm
          have CM := hide cm
          have HSZ := hide hsz
          clear cm hsz HS3
          go_wp2_with fail
          refine Calls.mono CM.out ?_
          rintro e0 w4 ⟨rfl, hb4⟩
          have ST4 := hide ((ST3.out).next hb4)
          have z0 := (ST4.out).len.c0
          have z1 := (ST4.out).len.c1
          have zz := (ST4.out).len.z
          clear CM hb4 t0 t3
          go_wp2_with fail
          refine bodyPost_ret (v := lenE (sizeV k (lowV tx) nm a)) (by rw [HSZ.out]; simp [results, Tryz.results23, go_sem, z0, z1, lenE, lenA]) rfl ⟨rfl, below_two (ST4.out).bel (Nat.le_succ _) _ _⟩
        · rw [decide_eq_false h4]
          have hsv := HS2.out
          rw [if_neg h4] at hsv
          have cq := (ST3.out).asks 5 frB
          have ST4 := hide ((ST3.out).alloc (.cells #[.string frB] 9))
          have CQ := hide cq
          have HS2' := hide hsv
          unfold frB at CQ ST4
          clear hsv HS2 h4 cq
          go_upto_region 10 with fail
          go_cut [50] (fun t wx => t = .bool (decide (k = 5 ∧ lowV tx = frB ∧ hasB a 16 = true)) ∧ wx = wc.alloc (.cells #[.string ⟨#[102, 114]⟩] 9))
          case first =>
            clear HS2' ST4
            by_cases hf : k = 5 ∧ lowV tx = frB
            · have cq := CQ.out
              rw [show decide (k = 5 ∧ lowV tx = ⟨#[102, 114]⟩) = true from decide_eq_true hf] at cq
              have CQ2 := hide cq
              cases hh : hasB a 16
              · rw [hh] at an16
                have HD := hide (decide_eq_false (p := k = 5 ∧ lowV tx = frB ∧ hasB a 16 = true) (fun h => absurd (hh.symm.trans h.2.2) (by simp)))
                clear hf hh cq CQ
                go_wp2_with fail
                refine Calls.mono CQ2.out ?_
                rintro e0 w4 ⟨rfl, rfl⟩
                go_wp2_with fail
                go_meet
                case rel => exact ⟨by rw [HD.out], rfl⟩
              · rw [hh] at an16
                have HD := hide (decide_eq_true (p := k = 5 ∧ lowV tx = frB ∧ hasB a 16 = true) ⟨hf.1, hf.2, hh⟩)
                clear hf hh cq CQ
                go_wp2_with fail
                refine Calls.mono CQ2.out ?_
                rintro e0 w4 ⟨rfl, rfl⟩
                go_wp2_with fail
                go_meet
                case rel => exact ⟨by rw [HD.out], rfl⟩
            · have cq := CQ.out
              rw [show decide (k = 5 ∧ lowV tx = ⟨#[102, 114]⟩) = false from decide_eq_false hf] at cq
              have CQ2 := hide cq
              have HD := hide (decide_eq_false (p := k = 5 ∧ lowV tx = frB ∧ hasB a 16 = true) (fun h => hf ⟨h.1, h.2.1⟩))
              clear hf cq CQ an16
              go_wp2_with fail
              refine Calls.mono CQ2.out ?_
              rintro e0 w4 ⟨rfl, rfl⟩
              go_wp2_with fail
              go_meet
              case rel => exact ⟨by rw [HD.out], rfl⟩
          case rest =>
            obtain ⟨rfl, rfl⟩ := hcut
            clear an16 CQ ST3
            generalize wc.alloc (.cells #[.string ⟨#[102, 114]⟩] 9) = w4 at *
            by_cases hf : k = 5 ∧ lowV tx = frB ∧ hasB a 16 = true
            · rw [decide_eq_true hf]
              have hsv := HS2'.out
              rw [if_pos hf] at hsv
              have HS3 := hide hsv
              clear hsv HS2' hf
              have t0 := (ST4.out).tk.c0
              have t3 := (ST4.out).tk.c3
              have cm := measured_any nm 6 1000 a _ (ST4.out).kw hn
              have hsz := HS3.out
              generalize measV nm 6 1000 a = r at *
              obtain ⟨⟨rx, ry⟩, re⟩ := r
              unfold lenE lenA at cm
              have CM := hide cm
              have HSZ := hide hsz
              clear cm hsz HS3
              go_wp2_with fail
              refine Calls.mono CM.out ?_
              rintro e0 w4 ⟨rfl, hb4⟩
              have ST4' := hide ((ST4.out).next hb4)
              have z0 := (ST4'.out).len.c0
              have z1 := (ST4'.out).len.c1
              have zz := (ST4'.out).len.z
              clear CM hb4 t0 t3
              go_wp2_with fail
              refine bodyPost_ret (v := lenE (sizeV k (lowV tx) nm a)) (by rw [HSZ.out]; simp [results, Tryz.results23, go_sem, z0, z1, lenE, lenA]) rfl ⟨rfl, below_two (ST4'.out).bel (Nat.le_succ _) _ _⟩
            · rw [decide_eq_false hf]
              have hsv := HS2'.out
              rw [if_neg hf] at hsv
              have HS3 := hide hsv
              clear hsv HS2' hf
              have hkw := (ST4.out).kw
              have e0 := hkw.c0
              have e1 := hkw.c1
              have e2 := hkw.c2
              have e3 := hkw.c3
              have e4 := hkw.c4
              have e5 := hkw.c5
              have e6 := hkw.c6
              have e7 := hkw.c7
              have e8 := hkw.c8
              have e9 := hkw.c9
              have e10 := hkw.c10
              have e11 := hkw.c11
              have e12 := hkw.c12
              have e13 := hkw.c13
              have e14 := hkw.c14
              have e15 := hkw.c15
              clear hkw
              go_wp2_with fail
              clear e0 e1 e2 e3 e4 e5 e6 e7 e8 e9 e10 e11 e12 e13 e14 e15
              go_loopw [66] (fun i wr => ∃ j : Nat, j ≤ 4 ∧ i = .int .i64 (j : Int) ∧ Hid (SizeSt w wr b1 b2 k at_ tx nm) ∧ Hid (szMiss k (lowV tx) a j)) (fun i _ => (4 - intOf i).toNat)
              case atStart => exact ⟨0, by omega, by go_num, ST4, hide ⟨fun h => by omega, fun h => by omega, fun h => by omega, fun h => by omega⟩⟩
              case round =>
                clear ST4
                obtain ⟨j, hj, rfl, STr, HM⟩ := hrel
                by_cases h4 : j = 4
                · subst h4
                  have hv : sizeV k (lowV tx) nm a = ((0, 0), 50) := by
                    rw [HS3.out]
                    obtain ⟨a1, a2, a3, a4⟩ := HM.out
                    by_cases h1 : k = 1
                    · rw [if_pos h1]
                      unfold keyV
                      rw [if_neg fun h => a1 (by omega) ⟨h1, h⟩, if_neg fun h => a2 (by omega) ⟨h1, h⟩, if_neg fun h => a3 (by omega) ⟨h1, h⟩, if_neg fun h => a4 (by omega) ⟨h1, h⟩]
                    · rw [if_neg h1]
                  have HV := hide hv
                  have z0 := (STr.out).len.c0
                  have z1 := (STr.out).len.c1
                  have zz := (STr.out).len.z
                  clear hv HM HS3
                  go_wp2_with fail
                  refine bodyPost_ret (v := lenE (sizeV k (lowV tx) nm a)) (by rw [HV.out]; simp [results, Tryz.results23, go_sem, z0, z1, lenE, lenA]) rfl ⟨rfl, below_two (STr.out).bel (Nat.le_succ _) _ _⟩
                · obtain rfl | rfl | rfl | rfl : j = 0 ∨ j = 1 ∨ j = 2 ∨ j = 3 := by omega
                  · have st5 := (STr.out).alloc (.cells #[.int .i64 1, .int .i64 0, .int .i64 4, .string ⟨#[97, 117, 116, 111]⟩] 44)
                    have y0 : (wr.alloc (.cells #[.int .i64 1, .int .i64 0, .int .i64 4, .string ⟨#[97, 117, 116, 111]⟩] 44)).cell? ⟨wr.heap.size, 0, none⟩ = some (.int .i64 1) := by rw [Lib.cell_of_heap (heap_alloc_new wr _)]; rfl
                    have y1 : (wr.alloc (.cells #[.int .i64 1, .int .i64 0, .int .i64 4, .string ⟨#[97, 117, 116, 111]⟩] 44)).cell? ⟨wr.heap.size, 1, none⟩ = some (.int .i64 0) := by rw [Lib.cell_of_heap (heap_alloc_new wr _)]; rfl
                    have y3 : (wr.alloc (.cells #[.int .i64 1, .int .i64 0, .int .i64 4, .string ⟨#[97, 117, 116, 111]⟩] 44)).cell? ⟨wr.heap.size, 3, none⟩ = some (.string ⟨#[97, 117, 116, 111]⟩) := by rw [Lib.cell_of_heap (heap_alloc_new wr _)]; rfl
                    have hly : wr.heap.size < (wr.alloc (.cells #[.int .i64 1, .int .i64 0, .int .i64 4, .string ⟨#[97, 117, 116, 111]⟩] 44)).heap.size := by simp
                    go_wp2_with fail
                    rw [kw_idx0]
                    go_upto_region 15 with fail
                    generalize wr.alloc (.cells #[.int .i64 1, .int .i64 0, .int .i64 4, .string ⟨#[97, 117, 116, 111]⟩] 44) = w5 at *
                    have cp := st5.asks 1 autoB
                    have st6 := st5.alloc (.cells #[.string autoB] 9)
                    have b6 : Below w5.heap.size w5 (w5.alloc (.cells #[.string autoB] 9)) := (Below.refl _ w5).alloc (Nat.le_refl _) _
                    have x0 := (b6.cell (p := ⟨wr.heap.size, 0, none⟩) hly).trans y0
                    have x1 := (b6.cell (p := ⟨wr.heap.size, 1, none⟩) hly).trans y1
                    have hlx : wr.heap.size < (w5.alloc (.cells #[.string autoB] 9)).heap.size := Nat.lt_of_lt_of_le hly b6.size
                    have ST5 := hide st6
                    by_cases hp : k = 1 ∧ lowV tx = autoB
                    · rw [decide_eq_true hp] at cp
                      have cg := good_any 1 0 a _ st6.kw
                      have hg : goodV 1 0 a = hasB a 4 := rfl
                      rw [hg] at cg
                      clear hg
                      cases hh : hasB a 4
                      · rw [hh] at cg
                        have hmj : ¬ (k = 1 ∧ lowV tx = autoB ∧ hasB a 4 = true) := fun h => by rw [hh] at h; exact absurd h.2.2 (by simp)
                        have HM2 : Hid (szMiss k (lowV tx) a (0 + 1)) := by
                          obtain ⟨a1, a2, a3, a4⟩ := HM.out
                          exact hide ⟨fun _ => hmj, fun h => by omega, fun h => by omega, fun h => by omega⟩
                        have CP := hide cp
                        have CG := hide cg
                        have HP := hide hp
                        unfold autoB at CP CG ST5 x0 x1 hlx
                        unfold lenA at CG
                        clear cp cg st5 st6 b6 hp hh hmj HM y0 y1
                        go_wp2_with fail
                        refine Calls.mono CP.out ?_
                        rintro e0 w6 ⟨rfl, rfl⟩
                        go_wp2_with fail
                        refine Calls.mono CG.out ?_
                        rintro e0 w7 ⟨rfl, hb7⟩
                        have ST5 := hide ((ST5.out).next hb7)
                        clear CP CG hb7 x0 x1 hlx y3 hly
                        go_wp2_with fail
                        go_round
                        case rel => exact ⟨0 + 1, by omega, by go_num, ST5, HM2⟩
                        case measure => simp [intOf]
                      · rw [hh] at cg
                        have hv : sizeV k (lowV tx) nm a = ((1, 0), 0) := by
                          rw [HS3.out, if_pos hp.1]
                          rw [hp.2]
                          exact kv0 hh
                        have HV := hide hv
                        have CP := hide cp
                        have CG := hide cg
                        unfold autoB at CP CG ST5 x0 x1 hlx
                        unfold lenA at CG
                        clear cp cg st5 st6 b6 hp hh HM y0 y1 hv HS3
                        go_wp2_with fail
                        refine Calls.mono CP.out ?_
                        rintro e0 w6 ⟨rfl, rfl⟩
                        go_wp2_with fail
                        refine Calls.mono CG.out ?_
                        rintro e0 w7 ⟨rfl, hb7⟩
                        have ST7 := hide ((ST5.out).next hb7)
                        have u0 := (hb7.cell (p := ⟨wr.heap.size, 0, none⟩) hlx).trans x0
                        have u1 := (hb7.cell (p := ⟨wr.heap.size, 1, none⟩) hlx).trans x1
                        have z0 := (ST7.out).len.c0
                        have z1 := (ST7.out).len.c1
                        have zz := (ST7.out).len.z
                        clear CP CG hb7 x0 x1 hlx y3 hly ST5
                        go_wp2_with fail
                        refine bodyPost_ret (v := lenE (sizeV k (lowV tx) nm a)) (by rw [HV.out]; simp [results, Tryz.results23, go_sem, z0, z1, lenE, lenA]) rfl ⟨rfl, below_two (ST7.out).bel (Nat.le_succ _) _ _⟩
                    · rw [decide_eq_false hp] at cp
                      have hmj : ¬ (k = 1 ∧ lowV tx = autoB ∧ hasB a 4 = true) := fun h => hp ⟨h.1, h.2.1⟩
                      have HM2 : Hid (szMiss k (lowV tx) a (0 + 1)) := by
                        obtain ⟨a1, a2, a3, a4⟩ := HM.out
                        exact hide ⟨fun _ => hmj, fun h => by omega, fun h => by omega, fun h => by omega⟩
                      have CP := hide cp
                      unfold autoB at CP ST5 x0 x1 hlx
                      clear cp st5 st6 b6 hp hmj HM y0 y1
                      go_wp2_with fail
                      refine Calls.mono CP.out ?_
                      rintro e0 w6 ⟨rfl, rfl⟩
                      clear CP x0 x1 hlx hly
                      go_wp2_with fail
                      go_round
                      case rel => exact ⟨0 + 1, by omega, by go_num, ST5, HM2⟩
                      case measure => simp [intOf]
                  · have st5 := (STr.out).alloc (.cells #[.int .i64 4, .int .i64 0, .int .i64 8, .string ⟨#[109, 105, 110, 45, 99, 111, 110, 116, 101, 110, 116]⟩] 44)
                    have y0 : (wr.alloc (.cells #[.int .i64 4, .int .i64 0, .int .i64 8, .string ⟨#[109, 105, 110, 45, 99, 111, 110, 116, 101, 110, 116]⟩] 44)).cell? ⟨wr.heap.size, 0, none⟩ = some (.int .i64 4) := by rw [Lib.cell_of_heap (heap_alloc_new wr _)]; rfl
                    have y1 : (wr.alloc (.cells #[.int .i64 4, .int .i64 0, .int .i64 8, .string ⟨#[109, 105, 110, 45, 99, 111, 110, 116, 101, 110, 116]⟩] 44)).cell? ⟨wr.heap.size, 1, none⟩ = some (.int .i64 0) := by rw [Lib.cell_of_heap (heap_alloc_new wr _)]; rfl
                    have y3 : (wr.alloc (.cells #[.int .i64 4, .int .i64 0, .int .i64 8, .string ⟨#[109, 105, 110, 45, 99, 111, 110, 116, 101, 110, 116]⟩] 44)).cell? ⟨wr.heap.size, 3, none⟩ = some (.string ⟨#[109, 105, 110, 45, 99, 111, 110, 116, 101, 110, 116]⟩) := by rw [Lib.cell_of_heap (heap_alloc_new wr _)]; rfl
                    have hly : wr.heap.size < (wr.alloc (.cells #[.int .i64 4, .int .i64 0, .int .i64 8, .string ⟨#[109, 105, 110, 45, 99, 111, 110, 116, 101, 110, 116]⟩] 44)).heap.size := by simp
                    go_wp2_with fail
                    rw [kw_idx1]
                    go_upto_region 15 with fail
                    generalize wr.alloc (.cells #[.int .i64 4, .int .i64 0, .int .i64 8, .string ⟨#[109, 105, 110, 45, 99, 111, 110, 116, 101, 110, 116]⟩] 44) = w5 at *
                    have cp := st5.asks 1 minB
                    have st6 := st5.alloc (.cells #[.string minB] 9)
                    have b6 : Below w5.heap.size w5 (w5.alloc (.cells #[.string minB] 9)) := (Below.refl _ w5).alloc (Nat.le_refl _) _
                    have x0 := (b6.cell (p := ⟨wr.heap.size, 0, none⟩) hly).trans y0
                    have x1 := (b6.cell (p := ⟨wr.heap.size, 1, none⟩) hly).trans y1
                    have hlx : wr.heap.size < (w5.alloc (.cells #[.string minB] 9)).heap.size := Nat.lt_of_lt_of_le hly b6.size
                    have ST5 := hide st6
                    by_cases hp : k = 1 ∧ lowV tx = minB
                    · rw [decide_eq_true hp] at cp
                      have cg := good_any 4 0 a _ st6.kw
                      have hg : goodV 4 0 a = hasB a 8 := rfl
                      rw [hg] at cg
                      clear hg
                      cases hh : hasB a 8
                      · rw [hh] at cg
                        have hmj : ¬ (k = 1 ∧ lowV tx = minB ∧ hasB a 8 = true) := fun h => by rw [hh] at h; exact absurd h.2.2 (by simp)
                        have HM2 : Hid (szMiss k (lowV tx) a (1 + 1)) := by
                          obtain ⟨a1, a2, a3, a4⟩ := HM.out
                          exact hide ⟨fun h => a1 (by omega), fun _ => hmj, fun h => by omega, fun h => by omega⟩
                        have CP := hide cp
                        have CG := hide cg
                        have HP := hide hp
                        unfold minB at CP CG ST5 x0 x1 hlx
                        unfold lenA at CG
                        clear cp cg st5 st6 b6 hp hh hmj HM y0 y1
                        go_wp2_with fail
                        refine Calls.mono CP.out ?_
                        rintro e0 w6 ⟨rfl, rfl⟩
                        go_wp2_with fail
                        refine Calls.mono CG.out ?_
                        rintro e0 w7 ⟨rfl, hb7⟩
                        have ST5 := hide ((ST5.out).next hb7)
                        clear CP CG hb7 x0 x1 hlx y3 hly
                        go_wp2_with fail
                        go_round
                        case rel => exact ⟨1 + 1, by omega, by go_num, ST5, HM2⟩
                        case measure => simp [intOf]
                      · rw [hh] at cg
                        have hv : sizeV k (lowV tx) nm a = ((4, 0), 0) := by
                          rw [HS3.out, if_pos hp.1]
                          rw [hp.2]
                          exact kv1 hh
                        have HV := hide hv
                        have CP := hide cp
                        have CG := hide cg
                        unfold minB at CP CG ST5 x0 x1 hlx
                        unfold lenA at CG
                        clear cp cg st5 st6 b6 hp hh HM y0 y1 hv HS3
                        go_wp2_with fail
                        refine Calls.mono CP.out ?_
                        rintro e0 w6 ⟨rfl, rfl⟩
                        go_wp2_with fail
                        refine Calls.mono CG.out ?_
                        rintro e0 w7 ⟨rfl, hb7⟩
                        have ST7 := hide ((ST5.out).next hb7)
                        have u0 := (hb7.cell (p := ⟨wr.heap.size, 0, none⟩) hlx).trans x0
                        have u1 := (hb7.cell (p := ⟨wr.heap.size, 1, none⟩) hlx).trans x1
                        have z0 := (ST7.out).len.c0
                        have z1 := (ST7.out).len.c1
                        have zz := (ST7.out).len.z
                        clear CP CG hb7 x0 x1 hlx y3 hly ST5
                        go_wp2_with fail
                        refine bodyPost_ret (v := lenE (sizeV k (lowV tx) nm a)) (by rw [HV.out]; simp [results, Tryz.results23, go_sem, z0, z1, lenE, lenA]) rfl ⟨rfl, below_two (ST7.out).bel (Nat.le_succ _) _ _⟩
                    · rw [decide_eq_false hp] at cp
                      have hmj : ¬ (k = 1 ∧ lowV tx = minB ∧ hasB a 8 = true) := fun h => hp ⟨h.1, h.2.1⟩
                      have HM2 : Hid (szMiss k (lowV tx) a (1 + 1)) := by
                        obtain ⟨a1, a2, a3, a4⟩ := HM.out
                        exact hide ⟨fun h => a1 (by omega), fun _ => hmj, fun h => by omega, fun h => by omega⟩
                      have CP := hide cp
                      unfold minB at CP ST5 x0 x1 hlx
                      clear cp st5 st6 b6 hp hmj HM y0 y1
                      go_wp2_with fail
                      refine Calls.mono CP.out ?_
                      rintro e0 w6 ⟨rfl, rfl⟩
                      clear CP x0 x1 hlx hly
                      go_wp2_with fail
                      go_round
                      case rel => exact ⟨1 + 1, by omega, by go_num, ST5, HM2⟩
                      case measure => simp [intOf]
                  · have st5 := (STr.out).alloc (.cells #[.int .i64 5, .int .i64 0, .int .i64 8, .string ⟨#[109, 97, 120, 45, 99, 111, 110, 116, 101, 110, 116]⟩] 44)
                    have y0 : (wr.alloc (.cells #[.int .i64 5, .int .i64 0, .int .i64 8, .string ⟨#[109, 97, 120, 45, 99, 111, 110, 116, 101, 110, 116]⟩] 44)).cell? ⟨wr.heap.size, 0, none⟩ = some (.int .i64 5) := by rw [Lib.cell_of_heap (heap_alloc_new wr _)]; rfl
                    have y1 : (wr.alloc (.cells #[.int .i64 5, .int .i64 0, .int .i64 8, .string ⟨#[109, 97, 120, 45, 99, 111, 110, 116, 101, 110, 116]⟩] 44)).cell? ⟨wr.heap.size, 1, none⟩ = some (.int .i64 0) := by rw [Lib.cell_of_heap (heap_alloc_new wr _)]; rfl
                    have y3 : (wr.alloc (.cells #[.int .i64 5, .int .i64 0, .int .i64 8, .string ⟨#[109, 97, 120, 45, 99, 111, 110, 116, 101, 110, 116]⟩] 44)).cell? ⟨wr.heap.size, 3, none⟩ = some (.string ⟨#[109, 97, 120, 45, 99, 111, 110, 116, 101, 110, 116]⟩) := by rw [Lib.cell_of_heap (heap_alloc_new wr _)]; rfl
                    have hly : wr.heap.size < (wr.alloc (.cells #[.int .i64 5, .int .i64 0, .int .i64 8, .string ⟨#[109, 97, 120, 45, 99, 111, 110, 116, 101, 110, 116]⟩] 44)).heap.size := by simp
                    go_wp2_with fail
                    rw [kw_idx2]
                    go_upto_region 15 with fail
                    generalize wr.alloc (.cells #[.int .i64 5, .int .i64 0, .int .i64 8, .string ⟨#[109, 97, 120, 45, 99, 111, 110, 116, 101, 110, 116]⟩] 44) = w5 at *
                    have cp := st5.asks 1 maxB
                    have st6 := st5.alloc (.cells #[.string maxB] 9)
                    have b6 : Below w5.heap.size w5 (w5.alloc (.cells #[.string maxB] 9)) := (Below.refl _ w5).alloc (Nat.le_refl _) _
                    have x0 := (b6.cell (p := ⟨wr.heap.size, 0, none⟩) hly).trans y0
                    have x1 := (b6.cell (p := ⟨wr.heap.size, 1, none⟩) hly).trans y1
                    have hlx : wr.heap.size < (w5.alloc (.cells #[.string maxB] 9)).heap.size := Nat.lt_of_lt_of_le hly b6.size
                    have ST5 := hide st6
                    by_cases hp : k = 1 ∧ lowV tx = maxB
                    · rw [decide_eq_true hp] at cp
                      have cg := good_any 5 0 a _ st6.kw
                      have hg : goodV 5 0 a = hasB a 8 := rfl
                      rw [hg] at cg
                      clear hg
                      cases hh : hasB a 8
                      · rw [hh] at cg
                        have hmj : ¬ (k = 1 ∧ lowV tx = maxB ∧ hasB a 8 = true) := fun h => by rw [hh] at h; exact absurd h.2.2 (by simp)
                        have HM2 : Hid (szMiss k (lowV tx) a (2 + 1)) := by
                          obtain ⟨a1, a2, a3, a4⟩ := HM.out
                          exact hide ⟨fun h => a1 (by omega), fun h => a2 (by omega), fun _ => hmj, fun h => by omega⟩
                        have CP := hide cp
                        have CG := hide cg
                        have HP := hide hp
                        unfold maxB at CP CG ST5 x0 x1 hlx
                        unfold lenA at CG
                        clear cp cg st5 st6 b6 hp hh hmj HM y0 y1
                        go_wp2_with fail
                        refine Calls.mono CP.out ?_
                        rintro e0 w6 ⟨rfl, rfl⟩
                        go_wp2_with fail
                        refine Calls.mono CG.out ?_
                        rintro e0 w7 ⟨rfl, hb7⟩
                        have ST5 := hide ((ST5.out).next hb7)
                        clear CP CG hb7 x0 x1 hlx y3 hly
                        go_wp2_with fail
                        go_round
                        case rel => exact ⟨2 + 1, by omega, by go_num, ST5, HM2⟩
                        case measure => simp [intOf]
                      · rw [hh] at cg
                        have hv : sizeV k (lowV tx) nm a = ((5, 0), 0) := by
                          rw [HS3.out, if_pos hp.1]
                          rw [hp.2]
                          exact kv2 hh
                        have HV := hide hv
                        have CP := hide cp
                        have CG := hide cg
                        unfold maxB at CP CG ST5 x0 x1 hlx
                        unfold lenA at CG
                        clear cp cg st5 st6 b6 hp hh HM y0 y1 hv HS3
                        go_wp2_with fail
                        refine Calls.mono CP.out ?_
                        rintro e0 w6 ⟨rfl, rfl⟩
                        go_wp2_with fail
                        refine Calls.mono CG.out ?_
                        rintro e0 w7 ⟨rfl, hb7⟩
                        have ST7 := hide ((ST5.out).next hb7)
                        have u0 := (hb7.cell (p := ⟨wr.heap.size, 0, none⟩) hlx).trans x0
                        have u1 := (hb7.cell (p := ⟨wr.heap.size, 1, none⟩) hlx).trans x1
                        have z0 := (ST7.out).len.c0
                        have z1 := (ST7.out).len.c1
                        have zz := (ST7.out).len.z
                        clear CP CG hb7 x0 x1 hlx y3 hly ST5
                        go_wp2_with fail
                        refine bodyPost_ret (v := lenE (sizeV k (lowV tx) nm a)) (by rw [HV.out]; simp [results, Tryz.results23, go_sem, z0, z1, lenE, lenA]) rfl ⟨rfl, below_two (ST7.out).bel (Nat.le_succ _) _ _⟩
                    · rw [decide_eq_false hp] at cp
                      have hmj : ¬ (k = 1 ∧ lowV tx = maxB ∧ hasB a 8 = true) := fun h => hp ⟨h.1, h.2.1⟩
                      have HM2 : Hid (szMiss k (lowV tx) a (2 + 1)) := by
                        obtain ⟨a1, a2, a3, a4⟩ := HM.out
                        exact hide ⟨fun h => a1 (by omega), fun h => a2 (by omega), fun _ => hmj, fun h => by omega⟩
                      have CP := hide cp
                      unfold maxB at CP ST5 x0 x1 hlx
                      clear cp st5 st6 b6 hp hmj HM y0 y1
                      go_wp2_with fail
                      refine Calls.mono CP.out ?_
                      rintro e0 w6 ⟨rfl, rfl⟩
                      clear CP x0 x1 hlx hly
                      go_wp2_with fail
                      go_round
                      case rel => exact ⟨2 + 1, by omega, by go_num, ST5, HM2⟩
                      case measure => simp [intOf]
                  · have st5 := (STr.out).alloc (.cells #[.int .i64 7, .int .i64 0, .int .i64 32, .string ⟨#[110, 111, 110, 101]⟩] 44)
                    have y0 : (wr.alloc (.cells #[.int .i64 7, .int .i64 0, .int .i64 32, .string ⟨#[110, 111, 110, 101]⟩] 44)).cell? ⟨wr.heap.size, 0, none⟩ = some (.int .i64 7) := by rw [Lib.cell_of_heap (heap_alloc_new wr _)]; rfl
                    have y1 : (wr.alloc (.cells #[.int .i64 7, .int .i64 0, .int .i64 32, .string ⟨#[110, 111, 110, 101]⟩] 44)).cell? ⟨wr.heap.size, 1, none⟩ = some (.int .i64 0) := by rw [Lib.cell_of_heap (heap_alloc_new wr _)]; rfl
                    have y3 : (wr.alloc (.cells #[.int .i64 7, .int .i64 0, .int .i64 32, .string ⟨#[110, 111, 110, 101]⟩] 44)).cell? ⟨wr.heap.size, 3, none⟩ = some (.string ⟨#[110, 111, 110, 101]⟩) := by rw [Lib.cell_of_heap (heap_alloc_new wr _)]; rfl
                    have hly : wr.heap.size < (wr.alloc (.cells #[.int .i64 7, .int .i64 0, .int .i64 32, .string ⟨#[110, 111, 110, 101]⟩] 44)).heap.size := by simp
                    go_wp2_with fail
                    rw [kw_idx3]
                    go_upto_region 15 with fail
                    generalize wr.alloc (.cells #[.int .i64 7, .int .i64 0, .int .i64 32, .string ⟨#[110, 111, 110, 101]⟩] 44) = w5 at *
                    have cp := st5.asks 1 noneT
                    have st6 := st5.alloc (.cells #[.string noneT] 9)
                    have b6 : Below w5.heap.size w5 (w5.alloc (.cells #[.string noneT] 9)) := (Below.refl _ w5).alloc (Nat.le_refl _) _
                    have x0 := (b6.cell (p := ⟨wr.heap.size, 0, none⟩) hly).trans y0
                    have x1 := (b6.cell (p := ⟨wr.heap.size, 1, none⟩) hly).trans y1
                    have hlx : wr.heap.size < (w5.alloc (.cells #[.string noneT] 9)).heap.size := Nat.lt_of_lt_of_le hly b6.size
                    have ST5 := hide st6
                    by_cases hp : k = 1 ∧ lowV tx = noneT
                    · rw [decide_eq_true hp] at cp
                      have cg := good_any 7 0 a _ st6.kw
                      have hg : goodV 7 0 a = hasB a 32 := rfl
                      rw [hg] at cg
                      clear hg
                      cases hh : hasB a 32
                      · rw [hh] at cg
                        have hmj : ¬ (k = 1 ∧ lowV tx = noneT ∧ hasB a 32 = true) := fun h => by rw [hh] at h; exact absurd h.2.2 (by simp)
                        have HM2 : Hid (szMiss k (lowV tx) a (3 + 1)) := by
                          obtain ⟨a1, a2, a3, a4⟩ := HM.out
                          exact hide ⟨fun h => a1 (by omega), fun h => a2 (by omega), fun h => a3 (by omega), fun _ => hmj⟩
                        have CP := hide cp
                        have CG := hide cg
                        have HP := hide hp
                        unfold noneT at CP CG ST5 x0 x1 hlx
                        unfold lenA at CG
                        clear cp cg st5 st6 b6 hp hh hmj HM y0 y1
                        go_wp2_with fail
                        refine Calls.mono CP.out ?_
                        rintro e0 w6 ⟨rfl, rfl⟩
                        go_wp2_with fail
                        refine Calls.mono CG.out ?_
                        rintro e0 w7 ⟨rfl, hb7⟩
                        have ST5 := hide ((ST5.out).next hb7)
                        clear CP CG hb7 x0 x1 hlx y3 hly
                        go_wp2_with fail
                        go_round
                        case rel => exact ⟨3 + 1, by omega, by go_num, ST5, HM2⟩
                        case measure => simp [intOf]
                      · rw [hh] at cg
                        have hv : sizeV k (lowV tx) nm a = ((7, 0), 0) := by
                          rw [HS3.out, if_pos hp.1]
                          rw [hp.2]
                          exact kv3 hh
                        have HV := hide hv
                        have CP := hide cp
                        have CG := hide cg
                        unfold noneT at CP CG ST5 x0 x1 hlx
                        unfold lenA at CG
                        clear cp cg st5 st6 b6 hp hh HM y0 y1 hv HS3
                        go_wp2_with fail
                        refine Calls.mono CP.out ?_
                        rintro e0 w6 ⟨rfl, rfl⟩
                        go_wp2_with fail
                        refine Calls.mono CG.out ?_
                        rintro e0 w7 ⟨rfl, hb7⟩
                        have ST7 := hide ((ST5.out).next hb7)
                        have u0 := (hb7.cell (p := ⟨wr.heap.size, 0, none⟩) hlx).trans x0
                        have u1 := (hb7.cell (p := ⟨wr.heap.size, 1, none⟩) hlx).trans x1
                        have z0 := (ST7.out).len.c0
                        have z1 := (ST7.out).len.c1
                        have zz := (ST7.out).len.z
                        clear CP CG hb7 x0 x1 hlx y3 hly ST5
                        go_wp2_with fail
                        refine bodyPost_ret (v := lenE (sizeV k (lowV tx) nm a)) (by rw [HV.out]; simp [results, Tryz.results23, go_sem, z0, z1, lenE, lenA]) rfl ⟨rfl, below_two (ST7.out).bel (Nat.le_succ _) _ _⟩
                    · rw [decide_eq_false hp] at cp
                      have hmj : ¬ (k = 1 ∧ lowV tx = noneT ∧ hasB a 32 = true) := fun h => hp ⟨h.1, h.2.1⟩
                      have HM2 : Hid (szMiss k (lowV tx) a (3 + 1)) := by
                        obtain ⟨a1, a2, a3, a4⟩ := HM.out
                        exact hide ⟨fun h => a1 (by omega), fun h => a2 (by omega), fun h => a3 (by omega), fun _ => hmj⟩
                      have CP := hide cp
                      unfold noneT at CP ST5 x0 x1 hlx
                      clear cp st5 st6 b6 hp hmj HM y0 y1
                      go_wp2_with fail
                      refine Calls.mono CP.out ?_
                      rintro e0 w6 ⟨rfl, rfl⟩
                      clear CP x0 x1 hlx hly
                      go_wp2_with fail
                      go_round
                      case rel => exact ⟨3 + 1, by omega, by go_num, ST5, HM2⟩
                      case measure => simp [intOf]
  · have hsv := HSV.out
    rw [hfo, if_pos rfl] at hsv
    have HSV2 := hide hsv
    have z0 := (ST2.out).len.c0
    have z1 := (ST2.out).len.c1
    have zz := (ST2.out).len.z
    clear hsv HSV hfo
    go_wp2_with fail
    refine bodyPost_ret (v := lenE (sizeV k (lowV tx) nm a)) (by rw [HSV2.out]; simp [results, Tryz.results23, go_sem, z0, z1, lenE, lenA]) rfl ⟨rfl, below_two (ST2.out).bel (Nat.le_succ _) _ _⟩

end Go.Proofs.YtmnmpfcfdopjnaaGreatDoor

/- A size, read of words. -/
namespace Go.Proofs.YtmnmpfcfdopjnaaGreatDoor
open Go.RowKit

abbrev Tk := (Int × Int) × ByteArray × ByteArray
/-- The size of the word at a place. -/
def szAt (l : List Tk) (at_ a : Int) : (Int × Int) × Int := sizeV (tkV l at_).1.1 (lowV (tkV l at_).2.1) (tkV l at_).2.2 a
/-- What Read answers. -/
def readL (l : List Tk) (at_ a : Int) : (Int × Int) × Int × Int := if (szAt l at_ a).2 = 0 then ((szAt l at_ a).1, at_ + 1, 0) else ((0, 0), at_, (szAt l at_ a).2)
def readE (r : (Int × Int) × Int × Int) : Value := .tuple #[lenA r.1.1 r.1.2, .int .i64 r.2.1, .int .i64 r.2.2]
/-- All words are short. -/
def Short (l : List Tk) : Prop := l.length ≤ 1000000 ∧ ∀ x ∈ l, x.2.1.size ≤ 100000 ∧ x.2.2.size ≤ 100000
theorem Short.at {l : List Tk} (h : Short l) (i : Int) : (tkV l i).2.1.size ≤ 100000 ∧ (tkV l i).2.2.size ≤ 100000 := by
  unfold tkV
  split
  · exact ⟨by decide, by decide⟩
  · by_cases hi : i.toNat < l.length
    · rw [List.getD, List.getElem?_eq_getElem hi]
      exact h.2 _ (List.getElem_mem hi)
    · rw [List.getD, List.getElem?_eq_none (by omega)]
      exact ⟨by decide, by decide⟩
theorem size_end (low num : ByteArray) (a : Int) : sizeV 8 low num a = ((0, 0), 50) := by
  unfold sizeV foreignB
  simp
theorem szAt_in {l : List Tk} {i a : Int} (h : (szAt l i a).2 = 0) : 0 ≤ i ∧ i < l.length := by
  rcases Int.lt_or_le i 0 with hn | hn
  · unfold szAt tkV at h
    rw [if_pos hn] at h
    rw [size_end] at h
    simp at h
  · refine ⟨hn, ?_⟩
    rcases Int.lt_or_le i l.length with hl | hl
    · exact hl
    · unfold szAt tkV at h
      rw [if_neg (by omega), List.getD, List.getElem?_eq_none (by omega)] at h
      simp only [Option.getD_none] at h
      rw [size_end] at h
      simp at h

set_option maxRecDepth 100000 in
set_option maxHeartbeats 4000000 in
theorem read_size (l : List Tk) (at_ a : Int) (v : Value) (w : World) (h : Tks w v l) (hl : Short l) (hk : KW w)
    (hs : ∀ w', KW w' → Calls Tryz.prog 23 #[tkW (tkV l at_), .int .i64 a] w' fun e w'' => e = .returned (lenE (szAt l at_ a)) ∧ Below w'.heap.size w' w'') :
    Calls Tryz.prog 13 #[v, .int .i64 at_, .int .i64 a] w fun e w' => e = .returned (readE (readL l at_ a)) ∧ Below w.heap.size w w' := by
  have hz := LenAt.new w 0 0
  have hb0 : Below w.heap.size w (w.alloc (.cells #[.int .i64 0, .int .i64 0] 23)) := (Below.refl _ w).alloc (Nat.le_refl _) _
  have cw := wordAt_any l at_ v (w.alloc (.cells #[.int .i64 0, .int .i64 0] 23)) (h.below hb0) hl.1
  have hr : readL l at_ a = if (szAt l at_ a).2 = 0 then ((szAt l at_ a).1, at_ + 1, 0) else ((0, 0), at_, (szAt l at_ a).2) := rfl
  have hin : (szAt l at_ a).2 = 0 → 0 ≤ at_ ∧ at_ < l.length := szAt_in
  have hll := hl.1
  obtain ⟨ao, n, cap, rfl⟩ : ∃ ao n cap, v = .slice ao n cap := by
    rcases h.val with ⟨_, ao, cap, h⟩ | ⟨b, off, cap, h, _⟩
    · exact ⟨_, _, _, h⟩
    · exact ⟨_, _, _, h⟩
  generalize szAt l at_ a = r at *
  generalize tkW (tkV l at_) = tv at *
  obtain ⟨⟨rx, ry⟩, re⟩ := r
  simp only at hr hin
  unfold lenE lenA at hs
  have HS := hide hs
  have CW := hide cw
  have HZ := hide hz
  have HK := hide (hk.below hb0)
  have HB0 := hide hb0
  have HR := hide hr
  have HIN := hide hin
  clear hs cw hz hk hb0 hr h hl hin
  go_enter Tryz.func13, Tryz.ntmps13
  go_wp2_with fail
  refine Calls.mono CW.out ?_
  rintro e0 w1 ⟨rfl, hb1⟩
  have hZ1 := (HZ.out).below hb1 (HZ.out).lt
  have hK1 := (HK.out).below hb1
  have hB1 := (HB0.out).trans (hb1.mono (HB0.out).size)
  have cs := unhide HS w1 hK1
  have CS := hide cs
  have HZ1 := hide hZ1
  have HB1 := hide hB1
  clear cs hZ1 hB1 hK1 hb1 HK HZ HB0 HS CW
  go_wp2_with fail
  refine Calls.mono CS.out ?_
  rintro e0 w2 ⟨rfl, hb2⟩
  have hZ2 := ((HZ1.out).below hb2 (HZ1.out).lt).alloc (.cells #[.int .i64 rx, .int .i64 ry] 23)
  have hV2 := LenAt.new w2 rx ry
  have hB2 := (HB1.out).trans (hb2.mono (HB1.out).size)
  have hB3 := hB2.alloc hB2.size (.cells #[.int .i64 rx, .int .i64 ry] 23)
  have hlt : w.heap.size < w2.heap.size := ((HZ1.out).below hb2 (HZ1.out).lt).lt
  have z0 := hZ2.c0
  have z1 := hZ2.c1
  have zz := hZ2.z
  have v0 := hV2.c0
  have v1 := hV2.c1
  have HB3 := hide hB3
  have hne : ¬ w.heap.size = w2.heap.size := by omega
  have hne' : ¬ w2.heap.size = w.heap.size := by omega
  clear hZ2 hV2 hB2 hB3 HZ1 HB1 CS hb2
  rcases eqk re 0 with ⟨h0, h0b⟩ | ⟨h0, h0b⟩
  · subst h0
    have hi := (HIN.out) rfl
    have hr := HR.out
    rw [if_pos rfl] at hr
    have HR2 := hide hr
    have hi1 : at_ + 1 < 9223372036854775807 := by omega
    have hi0 : 0 ≤ at_ := hi.1
    clear h0b hr HR HIN hi
    go_upto_region 2 with fail
    generalize w2.alloc (.cells #[.int .i64 rx, .int .i64 ry] 23) = w3 at *
    go_wp2_with fail
    refine bodyPost_ret (v := readE (readL l at_ a)) (by rw [HR2.out]; simp [results, Tryz.results13, go_sem, z0, z1, readE, lenA]) rfl ⟨rfl, below_two HB3.out (Nat.le_refl _) _ _⟩
  · have hr := HR.out
    rw [if_neg h0] at hr
    have HR2 := hide hr
    have hne0 : (re != 0) = true := by rw [bne, h0b]; rfl
    clear h0 hr HR HIN
    go_upto_region 2 with fail
    generalize w2.alloc (.cells #[.int .i64 rx, .int .i64 ry] 23) = w3 at *
    go_wp2_with fail
    refine bodyPost_ret (v := readE (readL l at_ a)) (by rw [HR2.out]; simp [results, Tryz.results13, go_sem, z0, z1, readE, lenA]) rfl ⟨rfl, below_two HB3.out (Nat.le_refl _) _ _⟩

/-- Read of a word that is no plain number. -/
theorem read_dim (l : List Tk) (at_ a : Int) (v : Value) (w : World) (h : Tks w v l) (hl : Short l) (hk : KW w) (h3 : ¬ (tkV l at_).1.1 = 3) :
    Calls Tryz.prog 13 #[v, .int .i64 at_, .int .i64 a] w fun e w' => e = .returned (readE (readL l at_ a)) ∧ Below w.heap.size w w' := by
  have hs := hl.at at_
  exact read_size l at_ a v w h hl hk fun w' hk' => size_any _ _ _ _ a w' hk' h3 hs.1 (by omega)

end Go.Proofs.YtmnmpfcfdopjnaaGreatDoor

/- The words of a quoted text. -/
namespace Go.Proofs.YtmnmpfcfdopjnaaGreatDoor
open Go.RowKit

theorem hx_not (d : Nat) (h : d < 16) : hx d ≠ 13 ∧ hx d ≠ 10 ∧ hx d ≠ 12 := by
  obtain rfl | rfl | rfl | rfl | rfl | rfl | rfl | rfl | rfl | rfl | rfl | rfl | rfl | rfl | rfl | rfl : d = 0 ∨ d = 1 ∨ d = 2 ∨ d = 3 ∨ d = 4 ∨ d = 5 ∨ d = 6 ∨ d = 7 ∨ d = 8 ∨ d = 9 ∨ d = 10 ∨ d = 11 ∨ d = 12 ∨ d = 13 ∨ d = 14 ∨ d = 15 := by omega
  all_goals decide
theorem qu_piece {s : ByteArray} {i : Nat} {Y : ByteArray} {R : List UInt8} (h0 : bt s i ≠ 0) (h : Y.data.toList = (qB s i).data.toList ++ R) : quP Y 34 0 = some (⟨#[bt s i]⟩, (qB s i).size) := by
  unfold qB at h ⊢
  generalize bt s i = c at *
  by_cases he : c.toNat = 34 ∨ c.toNat = 92
  · rw [if_pos he] at h ⊢
    have h' : Y.data.toList = 92 :: c :: R := h
    have hsz : Y.size = 2 + R.length := by rw [size_len, h']; simp; omega
    have hb0 : btT Y 0 = 92 := by rw [bt_get, h']; rfl
    have hb1 : btT Y 1 = c := by rw [bt_get, h']; rfl
    have hx := hex_esc (c := c) (decide_eq_false (by omega)) (decide_eq_false (by omega)) h
    rw [qu_esc (by rw [hb0]; exact fun h => h.elim (fun h => by omega) (fun h => absurd h (by decide))) (by rw [hb0]; decide) hb0]
    rw [esc_hex (by omega) (by rw [hb1]; intro e; rw [e] at he; exact absurd he (by decide)) (by rw [hb1]; rintro (e | e) <;> (rw [e] at he; exact absurd he (by decide))), hx]
    rfl
  · rw [if_neg he] at h ⊢
    cases hc : ctlB c
    · rw [hc, if_neg (by simp)] at h
      rw [if_neg (by simp)]
      have hcf := of_decide_eq_false hc
      have h' : Y.data.toList = c :: R := h
      have hsz : Y.size = 1 + R.length := by rw [size_len, h']; simp; omega
      have hb0 : btT Y 0 = c := by rw [bt_get, h']; rfl
      rw [qu_one (by rw [hb0]; exact fun h => h.elim (fun h => by omega) (fun h => by have := of_decide_eq_true h; omega)) (by rw [hb0]; intro e; rw [e] at he; exact he (.inl rfl)) (by rw [hb0]; intro e; rw [e] at he; exact he (.inr rfl)), hb0]
      rfl
    · rw [hc, if_pos rfl] at h
      rw [if_pos rfl]
      have hct := of_decide_eq_true hc
      have h' : Y.data.toList = 92 :: (hexs c.toNat ++ 32 :: R) := by rw [h]; show (92 :: (hexs c.toNat ++ [32])) ++ R = _; simp
      have hb0 : btT Y 0 = 92 := by rw [bt_get, h']; rfl
      have hsz : 2 ≤ Y.size := by rw [size_len, h']; simp; omega
      have hb1 : ∃ d, d < 16 ∧ btT Y 1 = hx d := by
        rw [bt_get, h']
        unfold hexs
        split
        · exact ⟨c.toNat, by omega, rfl⟩
        · exact ⟨c.toNat / 16, by omega, rfl⟩
      obtain ⟨d, hd, hb1⟩ := hb1
      have hn := hx_not d hd
      have hx := hex_num h0 (by omega) h
      rw [qu_esc (by rw [hb0]; exact fun h => h.elim (fun h => by omega) (fun h => absurd h (by decide))) (by rw [hb0]; decide) hb0]
      rw [esc_hex (by omega) (by rw [hb1]; exact hn.1) (by rw [hb1]; exact fun e => e.elim hn.2.1 hn.2.2), hx]

theorem mean_quote {s T : ByteArray} (hz : ∀ i, i < s.size → bt s i ≠ 0) (hT : T.data.toList = 34 :: (eb (qB s) s.size ++ [34])) : ∀ (d i F : Nat), i + d = s.size → d < F →
    mean (quP T 34) F (1 + (eb (qB s) i).length) (s.data.toList.take i) = some (s.data.toList, 1 + (eb (qB s) s.size).length)
  | 0, i, F, h, hF => by
    obtain ⟨F, rfl⟩ : ∃ G, F = G + 1 := ⟨F - 1, by omega⟩
    obtain rfl : i = s.size := by omega
    have hTs : T.size = (eb (qB s) s.size).length + 2 := by rw [size_len, hT]; simp
    have he : btT T (1 + (eb (qB s) s.size).length) = 34 := by rw [bt_get, hT, Nat.add_comm]; simp
    rw [mean_done (m := ⟨#[]⟩) (qu_end (by rw [he]; exact fun h => h.elim (fun h => by omega) (fun h => absurd h (by decide))) he), List.take_of_length_le (by rw [← size_len]; exact Nat.le_refl _)]
  | d + 1, i, F, h, hF => by
    obtain ⟨F, rfl⟩ : ∃ G, F = G + 1 := ⟨F - 1, by omega⟩
    have hi : i < s.size := by omega
    obtain ⟨R, hR⟩ := eb_split (qB s) s.size i hi
    have he : (T.extract (1 + (eb (qB s) i).length) T.size).data.toList = (qB s i).data.toList ++ (R ++ [34]) := by rw [data_ext, hT, hR, Nat.add_comm]; simp
    have hp := qu_piece (hz i hi) he
    rw [qu_sh, Nat.add_zero] at hp
    rw [mean_step hp (by have := qB_pos s i; omega) (fun e => hz i hi (by simpa using e)), Nat.add_assoc, ← eb_next]
    have ht : s.data.toList.take i ++ [bt s i] = s.data.toList.take (i + 1) := by
      have hl : i < s.data.toList.length := by rw [← size_len]; exact hi
      rw [List.take_succ_eq_append_getElem hl]
      congr 1
      unfold bt
      rw [List.getD, List.getElem?_eq_getElem hl]; rfl
    show mean _ F _ (s.data.toList.take i ++ [bt s i]) = _
    rw [ht]
    exact mean_quote hz hT d (i + 1) F (by omega) (by omega)

theorem tok_quote {s : ByteArray} (hn : txtB s 8192 = true) (hs : s.size ≤ 2000) : tokV (quoteV s) = .ok [(⟨6, s, noB⟩, 0), (⟨8, noB, noB⟩, (quoteV s).size)] ∧ (quoteV s).size ≤ 16002 ∧ (quoteV s).toList.isEmpty = false := by
  have hw : quoteV s = ⟨(34 :: (eb (qB s) s.size ++ [34])).toArray⟩ := by unfold quoteV; rw [if_pos hn]
  have hl := eb_len (qB_size s) s.size
  have hg := eb_ge (qB_pos s) s.size
  have hT : (quoteV s).data.toList = 34 :: (eb (qB s) s.size ++ [34]) := by rw [hw]
  have hsz : (quoteV s).size = (eb (qB s) s.size).length + 2 := by rw [size_len, hT]; simp
  have b0 : btT (quoteV s) 0 = 34 := by rw [bt_get, hT]; rfl
  have hm := mean_quote (fun i hi => text_nz hn hi) hT s.size 0 ((quoteV s).size + 1) (by omega) (by omega)
  have hm' : mean (quP (quoteV s) 34) ((quoteV s).size + 1) 1 [] = some (s.data.toList, 1 + (eb (qB s) s.size).length) := hm
  have hwd : wordV (quoteV s) 0 = .ok (⟨6, s, noB⟩, 1 + (eb (qB s) s.size).length + 1) := by
    unfold wordV
    rw [scan_at (by rw [b0]; decide), if_neg (by omega), beg_no (by rw [b0]; decide) (by rw [b0]; decide) (by rw [b0]; decide), if_neg (by simp), if_pos (.inl b0)]
    unfold quotV meanV
    rw [b0, hm']
    simp only
    rw [if_neg (by rw [← size_len]; omega)]
  refine ⟨?_, by omega, by rw [ByteArray.toList_eq, hT]; rfl⟩
  exact tok_of_reads (l := [(⟨6, s, noB⟩, 0)]) (by omega) (.step (next_here (by omega) (by rw [b0]; decide) (by rw [b0]; decide)) hwd (.done (next_end (by omega))))

end Go.Proofs.YtmnmpfcfdopjnaaGreatDoor

/- The chapter's examples of words. -/
namespace Go.Proofs.YtmnmpfcfdopjnaaGreatDoor
open Go.RowKit

theorem ex_repeat : tokV ⟨#[114, 101, 112, 101, 97, 116, 40, 50, 44, 32, 49, 102, 114, 41]⟩ = .ok [(⟨2, ⟨#[114, 101, 112, 101, 97, 116]⟩, ⟨#[]⟩⟩, 0), (⟨3, ⟨#[]⟩, ⟨#[50]⟩⟩, 7), (⟨7, ⟨#[44]⟩, ⟨#[]⟩⟩, 8), (⟨5, ⟨#[102, 114]⟩, ⟨#[49]⟩⟩, 10), (⟨7, ⟨#[41]⟩, ⟨#[]⟩⟩, 13), (⟨8, ⟨#[]⟩, ⟨#[]⟩⟩, 14)] := by kernel_rfl
theorem ex_31a : tokV ⟨#[92, 51, 49, 32, 97]⟩ = .ok [(⟨1, ⟨#[49, 97]⟩, ⟨#[]⟩⟩, 0), (⟨8, ⟨#[]⟩, ⟨#[]⟩⟩, 5)] := by kernel_rfl

/-- The cells of bytes. -/
def u8s (l : List UInt8) : Array Value := (l.map fun c => Value.int .u8 (c.toNat : Int)).toArray
set_option maxRecDepth 100000 in
/-- Bytes of the call's own as a text. -/
theorem conv_new (w : World) (l : List UInt8) (fr : Nat × Nat) (n : Nat) (hn : n = l.length) : Sem.run Tryz.prog (convert 52 9 (.slice (some ⟨w.heap.size, 0, none⟩) n n)) (w.alloc (.cells (u8s l) 5 fr)) = .ok (.string ⟨l.toArray⟩) (w.alloc (.cells (u8s l) 5 fr)) := by
  subst hn
  have h := run_convert_bytes_arg (P := Tryz.prog) (w.alloc (.cells (u8s l) 5 fr)) 52 5 Tryz.underlying52 Tryz.underlying5 w.heap.size 0 l.length l.length (l.map fun c => (c.toNat : Int)) (by simp) (fun i hi => by
    have hh := heap_alloc_new w (.cells (u8s l) 5 fr)
    rw [Nat.zero_add, Lib.cell_of_heap hh]
    simp [u8s, List.getElem?_eq_getElem hi]) 9 Tryz.underlying9
  rw [h]
  congr 2
  unfold strOfNums
  congr 2
  rw [List.map_map]
  have : (fun n : Int => UInt8.ofNat n.toNat) ∘ (fun c : UInt8 => (c.toNat : Int)) = id := by funext c; simp
  rw [this, List.map_id]
/-- The cells of words that Tokens made. -/
theorem own_cells {w : World} {base n : Nat} {v : Value} {xs : List Value} (h : w.ownsRow base 56 4 v n xs) (hn : 0 < n) : ∃ g cap, v = .slice (some ⟨g, 0, none⟩) n cap ∧ base ≤ g ∧ g < w.heap.size ∧ ∀ (i : Nat) x, xs[i]? = some x → w.cell? ⟨g, i, none⟩ = some x := by
  obtain ⟨h1, h2⟩ := h
  rcases h2 with ⟨_, h0⟩ | ⟨g, cap, cur, hv, hg, hh, hcap, _, hsz, htk⟩
  · omega
  · refine ⟨g, cap, hv, hg, (Array.getElem?_eq_some_iff.1 hh).1, fun i x hx => ?_⟩
    rw [Lib.cell_of_heap hh]
    have hi : i < xs.length := (List.getElem?_eq_some_iff.1 hx).1
    rw [← htk, List.getElem?_take, if_pos (by omega)] at hx
    simpa using hx

end Go.Proofs.YtmnmpfcfdopjnaaGreatDoor

/- The words of a text, as bytes of the call's own. -/
namespace Go.Proofs.YtmnmpfcfdopjnaaGreatDoor
open Go.RowKit

theorem bw_below (w : World) (S : ByteArray) : Below w.heap.size w (Lib.bytesWorld w 5 S) :=
  ⟨rfl, rfl, rfl, by rw [Lib.bytesWorld_size]; omega, fun k hk => Lib.bytesWorld_at_old w _ S k hk⟩
set_option maxRecDepth 100000 in
theorem bw_conv (w : World) (S : ByteArray) (c : Nat) : Sem.run Tryz.prog (convert 52 9 (.slice (some ⟨w.heap.size, 0, none⟩) S.size c)) (Lib.bytesWorld w 5 S) = .ok (.string S) (Lib.bytesWorld w 5 S) := by
  have h := run_convert_bytes_arg (P := Tryz.prog) (Lib.bytesWorld w 5 S) 52 5 Tryz.underlying52 Tryz.underlying5 w.heap.size 0 S.size c (S.data.toList.map fun c => (c.toNat : Int)) (by simp) (fun i hi => by
    rw [Nat.zero_add, Lib.bytesWorld_cell w _ S i hi]
    congr 2
    simp [List.getD, hi]) 9 Tryz.underlying9
  rw [h]
  congr 2
  apply WideShapes.bytes_inj
  rw [strOfNums_data, List.map_map]
  have : (fun n : Int => UInt8.ofNat n.toNat) ∘ (fun c : UInt8 => (c.toNat : Int)) = id := by funext c; simp
  rw [this, List.map_id]
theorem tokS_any (S : ByteArray) (c : Nat) (w : World) (hs : S.size ≤ 65536) (hm : MaxAt w) :
    Calls Tryz.prog 22 #[.slice (some ⟨w.heap.size, 0, none⟩) S.size c] (Lib.bytesWorld w 5 S) fun en w' => Below w.heap.size w w' ∧ TokR (Lib.bytesWorld w 5 S) (tokV S) en w' :=
  (tokens_any S (some ⟨w.heap.size, 0, none⟩) c (Lib.bytesWorld w 5 S) hs (hm.below (bw_below w S)) (bw_conv w S c)).mono fun _ _ h => ⟨(bw_below w S).trans (h.1.mono (bw_below w S).size), h.2⟩
theorem tok_empty : tokV ⟨#[]⟩ = .ok [(⟨8, ⟨#[]⟩, ⟨#[]⟩⟩, 0)] := by kernel_rfl
theorem write_no {s : ByteArray} (h : nameB s = false) : writeV s = ⟨#[]⟩ := by unfold writeV; rw [if_neg (by rw [h]; simp)]
theorem quote_no {s : ByteArray} (h : txtB s 8192 = false) : quoteV s = ⟨#[]⟩ := by unfold quoteV; rw [if_neg (by rw [h]; simp)]

end Go.Proofs.YtmnmpfcfdopjnaaGreatDoor

/- The words of a text, and the chapter's examples. -/
namespace Go.Proofs.YtmnmpfcfdopjnaaGreatDoor
open Go.RowKit

/-- Words as they lie in a list. -/
def tkl (l : List (Wd × Nat)) : List Tk := l.map fun x => ((x.1.kind, (x.2 : Int)), x.1.text, x.1.num)
theorem tkCells_at {l : List (Wd × Nat)} {i : Nat} {x : Tk} (h : (tkl l)[i]? = some x) : (tkCells l)[i * 4]? = some (.int .i64 x.1.1) ∧ (tkCells l)[i * 4 + 1]? = some (.int .i64 x.1.2) ∧ (tkCells l)[i * 4 + 2]? = some (.string x.2.1) ∧ (tkCells l)[i * 4 + 3]? = some (.string x.2.2) := by
  induction l generalizing i with
  | nil => simp [tkl] at h
  | cons y l ih =>
    cases i with
    | zero =>
      simp [tkl] at h
      subst h
      exact ⟨rfl, rfl, rfl, rfl⟩
    | succ i =>
      have := ih (i := i) (by simpa [tkl] using h)
      have e : ∀ c, c < 4 → (tkCells (y :: l))[(i + 1) * 4 + c]? = (tkCells l)[i * 4 + c]? := fun c _ => by
        have : (i + 1) * 4 + c = i * 4 + c + 4 := by omega
        rw [this]; rfl
      rw [show (i + 1) * 4 = (i + 1) * 4 + 0 from rfl, e 0 (by omega), e 1 (by omega), e 2 (by omega), e 3 (by omega)]
      simpa using this
theorem tks_own {w : World} {base : Nat} {v : Value} {l : List (Wd × Nat)} (h : w.ownsRow base 56 4 v l.length (tkCells l)) (hn : 0 < l.length) : Tks w v (tkl l) := by
  obtain ⟨g, cap, hv, _, hlt, hc⟩ := own_cells h hn
  refine ⟨.inr ⟨g, 0, cap, by rw [hv]; simp [tkl], hlt, fun i x hx => ?_⟩⟩
  obtain ⟨a0, a1, a2, a3⟩ := tkCells_at hx
  rw [Nat.zero_add]
  exact ⟨hc _ _ a0, hc _ _ a1, hc _ _ a2, hc _ _ a3⟩

/-- What words answers. -/
def WordsR (s : ByteArray) (en : Ending) (w' : World) : Prop :=
  match tokV s with
  | .error _ => en = .returned (.slice none 0 0)
  | .ok l => ∃ v, en = .returned v ∧ Tks w' v (tkl l)

set_option maxRecDepth 100000 in
set_option maxHeartbeats 4000000 in
theorem words5_any (s : ByteArray) (w : World) (hs : s.size ≤ 65536) (hm : MaxAt w) :
    Calls Tryz.prog 12 #[.string s] w fun e w' => Below w.heap.size w w' ∧ WordsR s e w' := by
  have hcv := Lib.run_convert_string_bytes (P := Tryz.prog) w 9 52 5 s Tryz.underlying9 Tryz.underlying52 Tryz.underlying5
  have ct := fun c => tokS_any s c w hs hm
  have CT := hide ct
  clear ct hm
  unfold WordsR
  cases ht : tokV s with
  | error x =>
    have HT := hide ht
    clear ht
    go_enter Tryz.func12, Tryz.ntmps12
    go_wp2_with fail
    refine Calls.mono (unhide CT _) ?_
    rintro e w1 ⟨hb, hr⟩
    rw [HT.out] at hr
    obtain ⟨xa, xe⟩ := x
    obtain rfl : e = _ := hr
    clear CT HT
    go_wp2_with fail
    go_ret
    exact ⟨hb, rfl⟩
  | ok l =>
    have HT := hide ht
    clear ht
    go_enter Tryz.func12, Tryz.ntmps12
    go_wp2_with fail
    refine Calls.mono (unhide CT _) ?_
    rintro e w1 ⟨hb, hr⟩
    rw [HT.out] at hr
    obtain ⟨v, rfl, hown⟩ := hr
    have hn : 0 < l.length := by
      have ht := HT.out
      unfold tokV at ht
      split at ht
      · cases ht
      · split at ht
        · cases ht
        · split at ht
          · cases ht
          · cases ht; simp
    have HX := hide (tks_own hown hn)
    obtain ⟨ao, cap, rfl⟩ : ∃ ao cap, v = .slice ao l.length cap := by
      rcases hown.2 with ⟨hv, h0⟩ | ⟨g, cap, cur, hv, _⟩
      · exact ⟨none, 0, by rw [h0]; exact hv⟩
      · exact ⟨_, _, hv⟩
    clear CT HT hown hn
    go_wp2_with fail
    go_ret
    exact ⟨hb, _, rfl, HX.out⟩

theorem ex5_a : tokV ⟨#[49, 46, 53, 112, 120]⟩ = .ok [(⟨5, ⟨#[112, 120]⟩, ⟨#[49, 46, 53]⟩⟩, 0), (⟨8, ⟨#[]⟩, ⟨#[]⟩⟩, 5)] := by kernel_rfl
theorem ex5_b : tokV ⟨#[53, 48, 37]⟩ = .ok [(⟨4, ⟨#[]⟩, ⟨#[53, 48]⟩⟩, 0), (⟨8, ⟨#[]⟩, ⟨#[]⟩⟩, 3)] := by kernel_rfl
theorem ex5_c : tokV ⟨#[50, 101, 109]⟩ = .ok [(⟨5, ⟨#[101, 109]⟩, ⟨#[50]⟩⟩, 0), (⟨8, ⟨#[]⟩, ⟨#[]⟩⟩, 3)] := by kernel_rfl
theorem ex5_d : tokV ⟨#[45, 49, 112, 120]⟩ = .ok [(⟨5, ⟨#[112, 120]⟩, ⟨#[45, 49]⟩⟩, 0), (⟨8, ⟨#[]⟩, ⟨#[]⟩⟩, 4)] := by kernel_rfl
def wa : List Tk := [((5, 0), ⟨#[112, 120]⟩, ⟨#[49, 46, 53]⟩), ((8, 5), ⟨#[]⟩, ⟨#[]⟩)]
def wb : List Tk := [((4, 0), ⟨#[]⟩, ⟨#[53, 48]⟩), ((8, 3), ⟨#[]⟩, ⟨#[]⟩)]
def wc5 : List Tk := [((5, 0), ⟨#[101, 109]⟩, ⟨#[50]⟩), ((8, 3), ⟨#[]⟩, ⟨#[]⟩)]
def wd : List Tk := [((5, 0), ⟨#[112, 120]⟩, ⟨#[45, 49]⟩), ((8, 4), ⟨#[]⟩, ⟨#[]⟩)]
theorem rd_a : readL wa 0 0 = ((2, 96), 1, 0) := by decide +kernel
theorem rd_b : readL wb 0 1 = ((3, 50000), 1, 0) := by decide +kernel
theorem rd_c : readL wc5 0 0 = ((0, 0), 0, 51) := by decide +kernel
theorem rd_d : readL wd 0 0 = ((0, 0), 0, 50) := by decide +kernel
theorem rd_e : readL wd 0 2 = ((2, -64), 1, 0) := by decide +kernel
theorem sh_a : Short wa := ⟨by decide, by decide⟩
theorem sh_b : Short wb := ⟨by decide, by decide⟩
theorem sh_c : Short wc5 := ⟨by decide, by decide⟩
theorem sh_d : Short wd := ⟨by decide, by decide⟩

end Go.Proofs.YtmnmpfcfdopjnaaGreatDoor
