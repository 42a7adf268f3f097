/- The texts that this proof stands on, part 6 of 12. -/
import Derived.Test.YteimfdfghopnaaaGreatDoorM5
import Derived.Laws.BytesArg
import Derived.Lib.SlBytesConst
import Derived.Lib.ConvBytes

/- All words, walked. -/
namespace Go.Proofs.YteimfdfghopnaaaGreatDoor
open Go.RowKit

/-- The cells of words. -/
def tkCells (l : List (Wd × Nat)) : List Value := l.flatMap fun x => [.int .i64 x.1.kind, .int .i64 (x.2 : Int), .string x.1.text, .string x.1.num]

theorem tkCells_snoc (l : List (Wd × Nat)) (t : Wd) (a : Nat) : tkCells (l ++ [(t, a)]) = tkCells l ++ [.int .i64 t.kind, .int .i64 (a : Int), .string t.text, .string t.num] := by simp [tkCells]

theorem tkLen (l : List (Wd × Nat)) : (tkCells l).length = l.length * 4 := by
  induction l with
  | nil => rfl
  | cons x l ih => simp [tkCells] at ih ⊢; omega

theorem tk_info : (Tryz.prog.info? 58).map (fun i => (i.zero, i.size, i.bytes)) = some (some (.agg #[.int .i64 0, .int .i64 0, .string ⟨#[]⟩, .string ⟨#[]⟩]), 4, 48) := by kernel_rfl

theorem own_only {w w' : World} {R base e size n : Nat} {v : Value} {xs : List Value} (h : w.ownsRow base e size v n xs) (ho : Only R w w') (hR : R < base) : w'.ownsRow base e size v n xs := by
  obtain ⟨h1, h2⟩ := h
  refine ⟨h1, ?_⟩
  rcases h2 with h2 | ⟨g, cap, cur, hv, hg, hh, r⟩
  · exact .inl h2
  · exact .inr ⟨g, cap, cur, hv, hg, (ho.block g (Array.getElem?_eq_some_iff.1 hh).1 (by omega)).trans hh, r⟩

theorem own_below {w w' : World} {base e size n : Nat} {v : Value} {xs : List Value} (h : w.ownsRow base e size v n xs) (ho : Below w.heap.size w w') : w'.ownsRow base e size v n xs := by
  obtain ⟨h1, h2⟩ := h
  refine ⟨h1, ?_⟩
  rcases h2 with h2 | ⟨g, cap, cur, hv, hg, hh, r⟩
  · exact .inl h2
  · exact .inr ⟨g, cap, cur, hv, hg, (ho.block g (Array.getElem?_eq_some_iff.1 hh).1).trans hh, r⟩

theorem cell_four_new (w : World) (T b : Nat) (hb : b = w.heap.size) (c0 c1 c2 c3 : Value) : ∀ j u, [c0, c1, c2, c3][j]? = some u → (w.alloc (.cells #[c0, c1, c2, c3] T)).cell? ((⟨b, 0, none⟩ : Addr).add j) = some u := by
  subst hb
  intro j u h
  have hn := heap_alloc_new w (.cells #[c0, c1, c2, c3] T)
  have e : (⟨w.heap.size, 0, none⟩ : Addr).add j = ⟨w.heap.size, j, none⟩ := by simp [Addr.add]; exact fun h => h.symm
  rw [e, Lib.cell_of_heap hn]
  simpa using h

/-- The reading's blocks: the list, the fault, the reader. -/
structure RS (w : World) (s : ByteArray) (k f : Nat) (acc : List (Wd × Nat)) (v : Value) (wr : World) : Prop where
  rd : RdAt (w.heap.size + 1 + 1) s k f wr
  ls : Boxed wr w.heap.size 22 v
  own : wr.ownsRow (w.heap.size + 3) 58 4 v acc.length (tkCells acc)
  ft : wr.heap[w.heap.size + 1]? = some (.cells #[.int .i64 0, .int .i64 0] 123 (0, 0))
  bl : Below w.heap.size w wr

theorem RS.only {w : World} {s : ByteArray} {k f : Nat} {acc : List (Wd × Nat)} {v : Value} {wr w' : World} (h : RS w s k f acc v wr) (ho : Only (w.heap.size + 1 + 1) wr w') {k' f' : Nat} (hr : RdAt (w.heap.size + 1 + 1) s k' f' w') : RS w s k' f' acc v w' :=
  ⟨hr, (ho.block _ h.ls.lt (by omega)).trans h.ls, own_only h.own ho (by omega), (ho.block _ (Array.getElem?_eq_some_iff.1 h.ft).1 (by omega)).trans h.ft, h.bl.trans (ho.below (by omega) h.bl.size)⟩

/-- How read ends. -/
def ReadR (w : World) : Except (Nat × Int) (List (Wd × Nat)) → Ending → World → Prop
  | .error (a, e), en, _ => en = .returned (.tuple #[.slice none 0 0, .agg #[.int .i64 (a : Int), .int .i64 e]])
  | .ok l, en, w' => ∃ v, en = .returned (.tuple #[v, .agg #[.int .i64 0, .int .i64 0]]) ∧ w'.ownsRow (w.heap.size + 3) 58 4 v l.length (tkCells l)

theorem read_err {s : ByteArray} {F k a : Nat} {acc : List (Wd × Nat)} (h : nextV s (s.size + 1) k = .error a) : readV s (F + 1) k acc = .error (a, 30) := by rw [readV, h]

theorem read_done {s : ByteArray} {F k : Nat} {acc : List (Wd × Nat)} (h : nextV s (s.size + 1) k = .ok none) : readV s (F + 1) k acc = .ok acc := by rw [readV, h]

theorem read_bad {s : ByteArray} {F k a : Nat} {e : Int} {acc : List (Wd × Nat)} (h : nextV s (s.size + 1) k = .ok (some a)) (hw : wordV s a = .error e) : readV s (F + 1) k acc = .error (a, e) := by rw [readV, h]; simp only; rw [hw]

theorem read_step {s : ByteArray} {F k a k' : Nat} {t : Wd} {acc : List (Wd × Nat)} (h : nextV s (s.size + 1) k = .ok (some a)) (hw : wordV s a = .ok (t, k')) : readV s (F + 1) k acc = readV s F k' (acc ++ [(t, a)]) := by rw [readV, h]; simp only; rw [hw]

theorem next_le {s : ByteArray} : ∀ (F k : Nat) {a : Nat}, nextV s F k = .ok (some a) → k ≤ a ∧ a < s.size
  | 0, _, _, h => by cases h
  | F + 1, k, a, h => by
    unfold nextV at h
    split at h
    · cases h
    · split at h
      · have := next_le F _ h; omega
      · split at h
        · split at h
          · cases h
          · have := next_le F _ h; omega
        · simp only [Except.ok.injEq, Option.some.injEq] at h; omega

theorem rs_start (w : World) (s : ByteArray) : RS w s 0 0 [] (.slice none 0 0) (((w.alloc (.cells #[.slice none 0 0] 22)).alloc (.cells #[.int .i64 0, .int .i64 0] 123)).alloc (.cells #[.string s, .int .i64 0, .int .i64 0] 155)) := by
  have b1 : Below w.heap.size w (w.alloc (.cells #[.slice none 0 0] 22)) := (Below.refl _ w).alloc (Nat.le_refl _) _
  have s1 : (w.alloc (.cells #[.slice none 0 0] 22)).heap.size = w.heap.size + 1 := by simp
  have n1 := heap_alloc_new w (.cells #[.slice none 0 0] 22)
  generalize w.alloc (.cells #[.slice none 0 0] 22) = w1 at *
  have b2 := b1.alloc (by omega) (.cells #[.int .i64 0, .int .i64 0] 123)
  have s2 : (w1.alloc (.cells #[.int .i64 0, .int .i64 0] 123)).heap.size = w1.heap.size + 1 := by simp
  have n2 := heap_alloc_new w1 (.cells #[.int .i64 0, .int .i64 0] 123)
  have m1 := (Below.heap_alloc w1 (.cells #[.int .i64 0, .int .i64 0] 123) w.heap.size (by omega)).trans n1
  generalize w1.alloc (.cells #[.int .i64 0, .int .i64 0] 123) = w2 at *
  have b3 := b2.alloc (by omega) (.cells #[.string s, .int .i64 0, .int .i64 0] 155)
  have n3 := heap_alloc_new w2 (.cells #[.string s, .int .i64 0, .int .i64 0] 155)
  have m2 := (Below.heap_alloc w2 (.cells #[.string s, .int .i64 0, .int .i64 0] 155) w.heap.size (by omega)).trans m1
  have m3 := (Below.heap_alloc w2 (.cells #[.string s, .int .i64 0, .int .i64 0] 155) w1.heap.size (by omega)).trans n2
  rw [s2, s1] at n3
  rw [s1] at m3
  exact ⟨n3, m2, World.ownsRow_nil _ _ _ _, m3, b3⟩

/-- A panic goes through the door: it is recovered. -/
theorem door_bad (w : World) (v : Value) (wr : World) (tmps : Array Value) (a : Nat) (e : Int) (h2 : tmps[2]? = some (.pointer (some ⟨w.heap.size, 0, none⟩))) (h3 : tmps[3]? = some (.pointer (some ⟨w.heap.size + 1, 0, none⟩)))
    (hl : Boxed wr w.heap.size 22 v) (hf : wr.heap[w.heap.size + 1]? = some (.cells #[.int .i64 0, .int .i64 0] 123 (0, 0))) (hb : Below w.heap.size w wr) (Q : Ending → World → Prop) (hQ : ∀ en w', Below w.heap.size w w' → en = .returned (.tuple #[.slice none 0 0, .agg #[.int .i64 (a : Int), .int .i64 e]]) → Q en w') :
    bodyPostD Tryz.prog Tryz.f110 Q (.panic [{ v := .iface 123 (.agg #[.int .i64 (a : Int), .int .i64 e]), recovered := false }]) { tmps := tmps, defers := [{ target := .fn (.func 151) #[.pointer (some ⟨w.heap.size, 0, none⟩), .pointer (some ⟨w.heap.size + 1, 0, none⟩)], args := #[] }] } wr := by
  refine leaves_cons (f := 151) (args := #[.pointer (some ⟨w.heap.size, 0, none⟩), .pointer (some ⟨w.heap.size + 1, 0, none⟩)]) (by simp) (by simp [go_sem]) ?_
  refine (catch_panicking w.heap.size (w.heap.size + 1) v 0 0 a e wr hl hf (by omega)).mono ?_
  rintro en u' w2 ⟨rfl, rfl, hL, hT, hB⟩
  have c0 : w2.cell? ⟨w.heap.size, 0, none⟩ = some (.slice none 0 0) := by rw [Lib.cell_of_heap hL]; rfl
  have d0 : w2.cell? ⟨w.heap.size + 1, 0, none⟩ = some (.int .i64 (a : Int)) := by rw [Lib.cell_of_heap hT]; rfl
  have d1 : w2.cell? ⟨w.heap.size + 1, 1, none⟩ = some (.int .i64 e) := by rw [Lib.cell_of_heap hT]; rfl
  have hbb := hb.trans (hB w.heap.size (Nat.le_refl _) (by omega))
  simp [Leaves, settle, results, Tryz.results110, go_sem, h2, h3, c0, d0, d1]
  exact hQ _ _ hbb rfl

/-- A return goes through the door: nothing is recovered. -/
theorem door_ok (w wr : World) (v : Value) (tmps : Array Value) (h2 : tmps[2]? = some (.pointer (some ⟨w.heap.size, 0, none⟩))) (h3 : tmps[3]? = some (.pointer (some ⟨w.heap.size + 1, 0, none⟩)))
    (c0 : wr.cell? ⟨w.heap.size, 0, none⟩ = some v) (d0 : wr.cell? ⟨w.heap.size + 1, 0, none⟩ = some (.int .i64 0)) (d1 : wr.cell? ⟨w.heap.size + 1, 1, none⟩ = some (.int .i64 0)) (Q : Ending → World → Prop) (hQ : Q (.returned (.tuple #[v, .agg #[.int .i64 0, .int .i64 0]])) wr) :
    bodyPostD Tryz.prog Tryz.f110 Q .ret { tmps := tmps, defers := [{ target := .fn (.func 151) #[.pointer (some ⟨w.heap.size, 0, none⟩), .pointer (some ⟨w.heap.size + 1, 0, none⟩)], args := #[] }] } wr := by
  refine leaves_cons (f := 151) (args := #[.pointer (some ⟨w.heap.size, 0, none⟩), .pointer (some ⟨w.heap.size + 1, 0, none⟩)]) (by simp) (by simp [go_sem]) ?_
  refine (catch_idle ⟨w.heap.size, 0, none⟩ ⟨w.heap.size + 1, 0, none⟩ wr).mono ?_
  rintro en u' w2 ⟨rfl, rfl, rfl⟩
  simp [Leaves, settle, results, Tryz.results110, go_sem, h2, h3, c0, d0, d1]
  exact hQ

set_option maxRecDepth 100000 in
set_option maxHeartbeats 4000000 in
theorem read_any (s : ByteArray) (w : World) (hs : s.size ≤ 300000) (hm : MaxAt w) :
    Calls Tryz.prog 110 #[.string s] w fun en w' => Below w.heap.size w w' ∧ ReadR w (readV s (s.size + 1) 0 []) en w' := by
  have hmf : ∀ (fn : Fn) (first cap : Array Value) (w : World), (Instr.makeFunc fn first cap).run Tryz.prog w = .ok (.func fn first cap) w := fun _ _ _ _ => rfl
  have hst := rs_start w s
  have hg : 1 ≠ w.heap.size + 1 + 1 := by obtain ⟨m, h⟩ := hm; have := World.block_lt_of_cell? _ _ h; simp at this; omega
  have HM := hide hm
  clear hm
  go_enter_defers Tryz.func110, Tryz.ntmps110
  go_wp2_with fail
  go_loopg [] (s.size + 1) (fun F wr => ∃ k f acc v, RS w s k f acc v wr ∧ k ≤ s.size ∧ s.size < F + k ∧ acc.length + F ≤ s.size + 1 ∧ Hid (readV s (s.size + 1) 0 [] = readV s F k acc))
  case atStart => exact ⟨0, 0, [], _, hst, Nat.zero_le _, by omega, by simp, rfl⟩
  case round =>
    clear hst
    obtain ⟨k, f, acc, v, hS, hk, hF, hA, hV⟩ := hrel
    obtain ⟨F, rfl⟩ : ∃ F, gk = F + 1 := ⟨gk - 1, by omega⟩
    go_wp2_with fail
    refine (next_any (w.heap.size + 1 + 1) s k f _ hS.rd hk hs ((HM.out).below (hS.bl)) hg).mono ?_
    rintro e w1 ⟨ho, hn⟩
    cases hnv : nextV s (s.size + 1) k with
    | error a =>
      rw [hnv] at hn
      obtain rfl : e = badV a 30 := hn
      have hl := (ho.block _ hS.ls.lt (by omega)).trans hS.ls
      have hf := (ho.block _ (Array.getElem?_eq_some_iff.1 hS.ft).1 (by omega)).trans hS.ft
      have hb := hS.bl.trans (ho.below (by omega) hS.bl.size)
      refine door_bad w v w1 _ a 30 rfl rfl hl hf hb _ fun en w' hB he => ⟨hB, ?_⟩
      rw [hV.out, read_err hnv]
      exact he
    | ok o =>
      cases o with
      | none =>
        rw [hnv] at hn
        obtain ⟨rfl, k', f', hR⟩ := hn
        have hS1 := hS.only ho hR
        have c0 := hS1.ls.cell
        have z0 := hS1.ls.frozen
        have t0 : w1.cell? ⟨w.heap.size + 1, 0, none⟩ = some (.int .i64 0) := by rw [Lib.cell_of_heap hS1.ft]; rfl
        have t1 : w1.cell? ⟨w.heap.size + 1, 1, none⟩ = some (.int .i64 0) := by rw [Lib.cell_of_heap hS1.ft]; rfl
        have tz := Lib.frozen_of_heap hS1.ft
        have HS := hide hS1
        have HV := hide (hV.out.trans (read_done hnv))
        clear hS hS1 hV hnv ho hR
        obtain ⟨ao, n', cap, rfl⟩ : ∃ ao n' cap, v = .slice ao n' cap := by
          rcases (HS.out).own.2 with ⟨hv, _⟩ | ⟨g, cap, cur, hv, _⟩
          · exact ⟨_, _, _, hv⟩
          · exact ⟨_, _, _, hv⟩
        go_wp2_with fail
        refine door_ok w _ (.slice ao n' cap) _ rfl rfl (by simp [go_sem, c0]) (by simp [go_sem, t0]) (by simp [go_sem, t1]) _ ⟨?_, ?_⟩
        · exact (((HS.out).bl.setCell (p := ⟨w.heap.size, 0, none⟩) (Nat.le_refl _) _).setCell (p := ⟨w.heap.size + 1, 0, none⟩) (Nat.le_succ _) _).setCell (p := ⟨w.heap.size + 1, 1, none⟩) (Nat.le_succ _) _
        · rw [HV.out]
          exact ⟨_, rfl, ownsRow_setCell_below (ownsRow_setCell_below (ownsRow_setCell_below (HS.out).own (a := ⟨w.heap.size, 0, none⟩) (by show w.heap.size < _; omega) _) (a := ⟨w.heap.size + 1, 0, none⟩) (by show w.heap.size + 1 < _; omega) _) (a := ⟨w.heap.size + 1, 1, none⟩) (by show w.heap.size + 1 < _; omega) _⟩
      | some a =>
        rw [hnv] at hn
        obtain ⟨rfl, hR⟩ := hn
        have hS1 := hS.only ho hR
        have ha := next_le _ _ hnv
        have HN := hide hnv
        have HV := hide hV.out
        have HS := hide hS1
        clear hS hS1 hV hnv ho hR
        go_wp2_with fail
        refine (word_any (w.heap.size + 1 + 1) s a a _ (HS.out).rd ha.2 hs).mono ?_
        rintro e w2 ⟨ho2, hw2⟩
        cases hwv : wordV s a with
        | error er =>
          rw [hwv] at hw2
          obtain rfl : e = badV a er := hw2
          have hl := (ho2.block _ (HS.out).ls.lt (by omega)).trans (HS.out).ls
          have hf := (ho2.block _ (Array.getElem?_eq_some_iff.1 (HS.out).ft).1 (by omega)).trans (HS.out).ft
          have hb := (HS.out).bl.trans (ho2.below (by omega) (HS.out).bl.size)
          refine door_bad w v w2 _ a er rfl rfl hl hf hb _ fun en w' hB he => ⟨hB, ?_⟩
          rw [HV.out, read_bad HN.out hwv]
          exact he
        | ok tk =>
          obtain ⟨⟨kd, tx, nm⟩, k'⟩ := tk
          rw [hwv] at hw2
          obtain ⟨rfl, hR2⟩ : e = .returned (.agg #[.int .i64 kd, .int .i64 0, .string tx, .string nm]) ∧ RdAt (w.heap.size + 1 + 1) s k' a w2 := hw2
          have hS2 := (HS.out).only ho2 hR2
          have hwl := word_le ha.2 hwv
          have HV2 := hide (HV.out.trans (read_step HN.out hwv))
          have HS2 := hide hS2
          have c2 := hR2.c2
          have cl := hS2.ls.cell
          have zl := hS2.ls.frozen
          have hlr := hR2.lt
          have hll := hS2.ls.lt
          have al : ∀ o, (w2.alloc o).cell? ⟨w.heap.size, 0, none⟩ = some v := fun o => (World.cell?_of_block (w := w2) (Below.heap_alloc w2 o w.heap.size hll)).trans cl
          clear HS HV HN hwv ho2 hS2 hR2
          obtain ⟨i0, hi, hz0, hz1, hz2⟩ := info_parts tk_info
          have b1 : Below w2.heap.size w2 (w2.alloc (.cells #[.int .i64 kd, .int .i64 (a : Int), .string tx, .string nm] 58)) := (Below.refl _ w2).alloc (Nat.le_refl _) _
          have b2 := b1.alloc b1.size (.cells #[.int .i64 kd, .int .i64 (a : Int), .string tx, .string nm] 58)
          have own4 := own_below (HS2.out).own b2
          have hl4 := tkLen acc
          go_wp2_with (at_builtin; refine wpList_append_own _ rfl _ _ 22 rfl (w.heap.size + 3) 58 i0 _ 4 48 Tryz.underlying22 hi hz0 hz1 hz2 rfl (by decide) _ _ _ rfl own4 ⟨w2.heap.size + 1, 0, none⟩ 1 1 [.int .i64 kd, .int .i64 (a : Int), .string tx, .string nm] rfl rfl (cell_four_new _ _ _ (by simp) _ _ _ _) (by simp [Value.oneCell']) (by unfold maxLen; omega) (by omega) (by simp; omega) ?_)
          intro v' w5 hown' hgrow _
          obtain ⟨ao, n', cap, rfl⟩ : ∃ ao n' cap, v' = .slice ao n' cap := by
            rcases hown'.2 with ⟨hv, _⟩ | ⟨g, cap, cur, hv, _⟩
            · exact ⟨_, _, _, hv⟩
            · exact ⟨_, _, _, hv⟩
          have hrow : ∀ i, v.ownBlock = some i → w.heap.size + 3 ≤ i := fun i hi => (own4.lt i hi).1
          have hsz : w2.heap.size + 2 ≤ w5.heap.size := by have := hgrow.size; simp at this; omega
          have blk : ∀ i, i < w.heap.size + 3 → i < w2.heap.size → w5.heap[i]? = w2.heap[i]? := fun i h1 h2 =>
            (hgrow.block i (by simp; omega) (fun e => by have := hrow i e.symm; omega)).trans (b2.block i h2)
          have hl5 : Boxed w5 w.heap.size 22 v := (blk _ (by omega) hll).trans (HS2.out).ls
          have hf5 := (blk (w.heap.size + 1) (by omega) (by omega)).trans (HS2.out).ft
          have hR5 : RdAt (w.heap.size + 1 + 1) s k' a w5 := (blk (w.heap.size + 1 + 1) (by omega) hlr).trans (HS2.out).rd
          have hb5 : Below w.heap.size w w5 := ((HS2.out).bl.trans (b2.mono (HS2.out).bl.size)).grown hgrow (by have := (HS2.out).bl.size; simp; omega) (fun i hi => by have := hrow i hi; omega)
          have c5 := hl5.cell
          have z5 := hl5.frozen
          rw [show acc.length + 1 = (acc ++ [((⟨kd, tx, nm⟩ : Wd), a)]).length by simp, ← tkCells_snoc acc ⟨kd, tx, nm⟩ a] at hown'
          have hS5 : RS w s k' a (acc ++ [(⟨kd, tx, nm⟩, a)]) (.slice ao n' cap) (w5.setCell ⟨w.heap.size, 0, none⟩ (.slice ao n' cap)) :=
            ⟨hR5.setOther (by omega) 0 _, by
              show (w5.setCell ⟨w.heap.size, 0, none⟩ (.slice ao n' cap)).heap[w.heap.size]? = _
              simp [World.setCell, Array.getElem?_modify, show w5.heap[w.heap.size]? = _ from hl5], ownsRow_setCell_below hown' (by show w.heap.size < _; omega) _,
              (Below.heap_setCell _ _ _ _ (by show w.heap.size + 1 ≠ w.heap.size; omega)).trans hf5, hb5.setCell (p := ⟨w.heap.size, 0, none⟩) (Nat.le_refl _) _⟩
          have HS5 := hide hS5
          clear hS5 hown' hgrow hl5 hf5 hR5 hb5 blk hrow own4 b1 b2 HS2 al cl zl c2
          go_wp2_with fail
          go_roundg F
          case measure => omega
          case rel => exact ⟨k', a, _, _, HS5.out, hwl.2, by omega, by simp; omega, HV2⟩

end Go.Proofs.YteimfdfghopnaaaGreatDoor

/- Tokens, walked, of texts that have no more bytes than words are allowed. -/
namespace Go.Proofs.YteimfdfghopnaaaGreatDoor
open Go.RowKit

theorem meanV_err {s : ByteArray} {lim : Nat} {p : Nat → Option (ByteArray × Nat)} {k : Nat} {e : Int} (h : meanV s lim p k = .error e) : e = 30 ∨ e = 52 := by
  unfold meanV at h
  split at h
  · simp only [Except.error.injEq] at h; omega
  · split at h
    · simp only [Except.error.injEq] at h; omega
    · cases h

theorem ident_err {s : ByteArray} {k : Nat} {e : Int} (h : identV s k = .error e) : e = 30 ∨ e = 52 := meanV_err h

theorem word_err {s : ByteArray} {k : Nat} {e : Int} (h : wordV s k = .error e) : e = 30 ∨ e = 52 := by
  unfold wordV at h
  split at h
  · unfold numV at h
    split at h
    · cases h
    · split at h
      · split at h
        · rename_i hi; simp only [Except.error.injEq] at h; subst h; exact ident_err hi
        · cases h
      · cases h
  · split at h
    · unfold nameV at h
      split at h
      · rename_i hi; simp only [Except.error.injEq] at h; subst h; exact ident_err hi
      · split at h <;> cases h
    · split at h
      · unfold quotV at h
        split at h
        · rename_i hi; simp only [Except.error.injEq] at h; subst h; exact meanV_err hi
        · cases h
      · split at h
        · simp only [Except.error.injEq] at h; omega
        · cases h

theorem next_err {s : ByteArray} : ∀ (F k : Nat) {a : Nat}, k ≤ s.size → s.size < F + k → nextV s F k = .error a → a ≤ s.size
  | 0, _, _, h1, h2, _ => by omega
  | F + 1, k, a, h1, h2, h => by
    unfold nextV at h
    split at h
    · cases h
    · split at h
      · exact next_err F _ (by omega) (by omega) h
      · split at h
        · rename_i hp
          have hp2 := pre_len hp
          rw [show (s.extract k s.size).data.toList.length = (s.extract k s.size).size by simp, ext_size'] at hp2
          simp at hp2
          have he := end_le s k (by omega)
          unfold endI at he
          split at h
          · simp only [Except.error.injEq] at h; omega
          · exact next_err F _ (by omega) (by omega) h
        · cases h

theorem read_facts {s : ByteArray} : ∀ (F k : Nat) (acc : List (Wd × Nat)), k ≤ s.size → s.size < F + k →
    (∀ a e, readV s F k acc = .error (a, e) → (e = 30 ∨ e = 52) ∧ a ≤ s.size) ∧ (∀ l, readV s F k acc = .ok l → l.length + k ≤ acc.length + s.size)
  | 0, k, _, h1, h2 => by omega
  | F + 1, k, acc, h1, h2 => by
    cases hn : nextV s (s.size + 1) k with
    | error a =>
      rw [read_err hn]
      refine ⟨fun b e h => ?_, fun l h => (by cases h)⟩
      simp only [Except.error.injEq, Prod.mk.injEq] at h
      obtain ⟨rfl, rfl⟩ := h
      exact ⟨.inl rfl, next_err _ _ h1 (by omega) hn⟩
    | ok o =>
      cases o with
      | none =>
        rw [read_done hn]
        refine ⟨fun b e h => (by cases h), fun l h => ?_⟩
        simp only [Except.ok.injEq] at h
        subst h; omega
      | some a =>
        have ha := next_le _ _ hn
        cases hw : wordV s a with
        | error e =>
          rw [read_bad hn hw]
          refine ⟨fun b e' h => ?_, fun l h => (by cases h)⟩
          simp only [Except.error.injEq, Prod.mk.injEq] at h
          obtain ⟨rfl, rfl⟩ := h
          exact ⟨word_err hw, by omega⟩
        | ok tk =>
          obtain ⟨t, k'⟩ := tk
          have hl := word_le ha.2 hw
          rw [read_step hn hw]
          have ih := read_facts F k' (acc ++ [(t, a)]) hl.2 (by omega)
          refine ⟨ih.1, fun l h => ?_⟩
          have := ih.2 l h
          simp at this
          omega

theorem tok_err {s : ByteArray} {x : Nat × Int} (h1 : ¬ 262144 < s.size) (h : readV s (s.size + 1) 0 [] = .error x) : tokV s = .error x := by unfold tokV; rw [if_neg h1, h]

theorem tok_ok {s : ByteArray} {l : List (Wd × Nat)} (h1 : ¬ 262144 < s.size) (h : readV s (s.size + 1) 0 [] = .ok l) (hl : ¬ 65536 < l.length) : tokV s = .ok (l ++ [(⟨8, noB, noB⟩, s.size)]) := by unfold tokV; rw [if_neg h1, h]; simp only; rw [if_neg hl]

/-- How Tokens ends. -/
def TokR (w : World) : Except (Nat × Int) (List (Wd × Nat)) → Ending → World → Prop
  | .error (a, e), en, _ => en = .returned (.tuple #[.slice none 0 0, .int .i64 (a : Int), .int .i64 e])
  | .ok l, en, w' => ∃ v, en = .returned (.tuple #[v, .int .i64 0, .int .i64 0]) ∧ w'.ownsRow w.heap.size 58 4 v l.length (tkCells l)

theorem own_base {w : World} {b b' e size n : Nat} {v : Value} {xs : List Value} (h : w.ownsRow b e size v n xs) (hb : b' ≤ b) : w.ownsRow b' e size v n xs := by
  obtain ⟨h1, h2⟩ := h
  refine ⟨h1, ?_⟩
  rcases h2 with h2 | ⟨g, cap, cur, hv, hg, r⟩
  · exact .inl h2
  · exact .inr ⟨g, cap, cur, hv, by omega, r⟩

set_option maxRecDepth 100000 in
set_option maxHeartbeats 4000000 in
theorem tokens_any (s : ByteArray) (ao : Option Addr) (cap : Nat) (w : World) (hs : s.size ≤ 65536) (hm : MaxAt w)
    (hcv : Sem.run Tryz.prog (convert 89 9 (.slice ao s.size cap)) w = .ok (.string s) w) :
    Calls Tryz.prog 67 #[.slice ao s.size cap] w fun en w' => Below w.heap.size w w' ∧ TokR w (tokV s) en w' := by
  have hi : ¬ (262144 : Int) < (s.size : Int) := by omega
  have cr := read_any s w (by omega) hm
  have hf := read_facts (s := s) (s.size + 1) 0 [] (Nat.zero_le _) (by omega)
  have CR := hide cr
  have HF := hide hf
  clear cr hf hm
  go_enter Tryz.func67, Tryz.ntmps67
  go_wp2_with fail
  refine (CR.out).mono ?_
  rintro e w1 ⟨hb1, hr⟩
  cases hv : readV s (s.size + 1) 0 [] with
  | error x =>
    obtain ⟨a, er⟩ := x
    rw [hv] at hr
    obtain rfl : e = _ := hr
    have hx := (HF.out).1 a er hv
    have htk : tokV s = .error (a, er) := tok_err (by omega) hv
    have hne : (er == 0) = false := by rw [beq_eq_false_iff_ne]; omega
    have hne' : (er != 0) = true := by rw [bne, hne]; rfl
    have HTK := hide htk
    clear CR HF hv htk hx
    go_wp2_with fail
    go_quiet (fail)
    go_wp2_with fail
    go_ret3
    exact ⟨bdN (hb1.alloc hb1.size _) _, by rw [HTK.out]; rfl⟩
  | ok l =>
    rw [hv] at hr
    obtain ⟨v, rfl, hown⟩ := hr
    have hl := (HF.out).2 l hv
    simp at hl
    have htk : tokV s = .ok (l ++ [(⟨8, noB, noB⟩, s.size)]) := tok_ok (by omega) hv (by omega)
    have HTK := hide htk
    clear CR HF hv htk
    obtain ⟨ao', cap', rfl⟩ : ∃ ao' cap', v = .slice ao' l.length cap' := by
      rcases hown.2 with ⟨hv, h0⟩ | ⟨g, cap, cur, hv, _⟩
      · exact ⟨none, 0, by rw [h0]; exact hv⟩
      · exact ⟨_, _, hv⟩
    have hli : ¬ (65536 : Int) < (l.length : Int) := by omega
    obtain ⟨i0, hi0, hz0, hz1, hz2⟩ := info_parts tk_info
    have b1 : Below w1.heap.size w1 (w1.alloc (.cells #[.int .i64 0, .int .i64 0] 123)) := (Below.refl _ w1).alloc (Nat.le_refl _) _
    have b2 := b1.alloc b1.size (.cells #[.int .i64 8, .int .i64 (s.size : Int), .string ⟨#[]⟩, .string ⟨#[]⟩] 58)
    have own4 := own_below (own_base hown (Nat.le_add_right w.heap.size 3)) b2
    have hbs := hb1.size
    go_wp2_with (at_builtin; refine wpList_append_own _ rfl _ _ 22 rfl w.heap.size 58 i0 _ 4 48 Tryz.underlying22 hi0 hz0 hz1 hz2 rfl (by decide) _ _ _ rfl own4 ⟨w1.heap.size + 1, 0, none⟩ 1 1 [.int .i64 8, .int .i64 (s.size : Int), .string ⟨#[]⟩, .string ⟨#[]⟩] rfl rfl (cell_four_new _ _ _ (by simp) _ _ _ _) (by simp [Value.oneCell']) (by unfold maxLen; omega) (by omega) (by simp; omega) ?_)
    intro v' w5 hown' hgrow _
    have hrow : ∀ i, Value.ownBlock (.slice ao' l.length cap') = some i → w.heap.size ≤ i := fun i hi => (own4.lt i hi).1
    have hb5 : Below w.heap.size w w5 := (hb1.trans (b2.mono hbs)).grown hgrow (by simp; omega) hrow
    rw [show l.length + 1 = (l ++ [((⟨8, ⟨#[]⟩, ⟨#[]⟩⟩ : Wd), s.size)]).length by simp, ← tkCells_snoc l ⟨8, ⟨#[]⟩, ⟨#[]⟩⟩ s.size] at hown'
    clear hgrow own4 b1 b2 hown
    go_wp2_with fail
    go_ret3
    exact ⟨hb5, by rw [HTK.out]; exact ⟨v', rfl, hown'⟩⟩

end Go.Proofs.YteimfdfghopnaaaGreatDoor

/- All words, by what is read one behind the other. -/
namespace Go.Proofs.YteimfdfghopnaaaGreatDoor
open Go.RowKit

theorem next_at {s : ByteArray} : ∀ (F k : Nat) {a : Nat}, nextV s F k = .ok (some a) → blT (btT s a) = false ∧ Lib.hasPrefix (s.extract a s.size).data.toList [47, 42] = false
  | 0, _, _, h => by cases h
  | F + 1, k, a, h => by
    unfold nextV at h
    split at h
    · cases h
    · split at h
      · exact next_at F _ h
      · split at h
        · split at h
          · cases h
          · exact next_at F _ h
        · rename_i h1 h2
          simp only [Except.ok.injEq, Option.some.injEq] at h
          subst h
          exact ⟨by simpa using h1, by simpa using h2⟩

/-- These words are read from a place on. -/
inductive Rds (s : ByteArray) : Nat → List (Wd × Nat) → Prop
  | done {k : Nat} : nextV s (s.size + 1) k = .ok none → Rds s k []
  | step {k a k' : Nat} {t : Wd} {l : List (Wd × Nat)} : nextV s (s.size + 1) k = .ok (some a) → wordV s a = .ok (t, k') → Rds s k' l → Rds s k ((t, a) :: l)

theorem Rds.read {s : ByteArray} {k : Nat} {l : List (Wd × Nat)} (h : Rds s k l) : ∀ (F : Nat) (acc : List (Wd × Nat)), s.size < F + k → readV s F k acc = .ok (acc ++ l) ∨ F = 0 := by
  induction h with
  | done hn =>
    intro F acc hF
    cases F with
    | zero => exact .inr rfl
    | succ F => left; rw [read_done hn]; simp
  | @step k a k' t l hn hw _ ih =>
    intro F acc hF
    have h1 := next_le _ _ hn
    have h2 := word_le h1.2 hw
    cases F with
    | zero => exact .inr rfl
    | succ F =>
      left
      rw [read_step hn hw]
      rcases ih F (acc ++ [(t, a)]) (by omega) with h | h
      · rw [h]; simp
      · omega

theorem Rds.from {s : ByteArray} {k a : Nat} {t : Wd} {l : List (Wd × Nat)} (h : Rds s k ((t, a) :: l)) : Rds s a ((t, a) :: l) := by
  cases h with
  | step hn hw hr =>
    have h1 := next_le _ _ hn
    have h2 := next_at _ _ hn
    exact .step (next_word h1.2 h2.1 h2.2) hw hr

/-- Words whose places are counted from another place on. -/
def sub (a : Nat) (l : List (Wd × Nat)) : List (Wd × Nat) := l.map fun x => (x.1, x.2 - a)

end Go.Proofs.YteimfdfghopnaaaGreatDoor

/- The chapter's examples of words. -/
namespace Go.Proofs.YteimfdfghopnaaaGreatDoor
open Go.RowKit

/-- The cells of words that Tokens made. -/
theorem own_cells {w : World} {base n : Nat} {v : Value} {xs : List Value} (h : w.ownsRow base 58 4 v n xs) (hn : 0 < n) : ∃ g cap, v = .slice (some ⟨g, 0, none⟩) n cap ∧ base ≤ g ∧ g < w.heap.size ∧ ∀ (i : Nat) x, xs[i]? = some x → w.cell? ⟨g, i, none⟩ = some x := by
  obtain ⟨h1, h2⟩ := h
  rcases h2 with ⟨_, h0⟩ | ⟨g, cap, cur, hv, hg, hh, hcap, _, hsz, htk⟩
  · omega
  · refine ⟨g, cap, hv, hg, (Array.getElem?_eq_some_iff.1 hh).1, fun i x hx => ?_⟩
    rw [Lib.cell_of_heap hh]
    have hi : i < xs.length := (List.getElem?_eq_some_iff.1 hx).1
    rw [← htk, List.getElem?_take, if_pos (by omega)] at hx
    simpa using hx

end Go.Proofs.YteimfdfghopnaaaGreatDoor

/- The words of a text, as bytes of the call's own. -/
namespace Go.Proofs.YteimfdfghopnaaaGreatDoor
open Go.RowKit

theorem bw_below (w : World) (S : ByteArray) : Below w.heap.size w (Lib.bytesWorld w 5 S) :=
  ⟨rfl, rfl, rfl, by rw [Lib.bytesWorld_size]; omega, fun k hk => Lib.bytesWorld_at_old w _ S k hk⟩

set_option maxRecDepth 100000 in
theorem bw_conv (w : World) (S : ByteArray) (c : Nat) : Sem.run Tryz.prog (convert 89 9 (.slice (some ⟨w.heap.size, 0, none⟩) S.size c)) (Lib.bytesWorld w 5 S) = .ok (.string S) (Lib.bytesWorld w 5 S) := by
  have h := run_convert_bytes_arg (P := Tryz.prog) (Lib.bytesWorld w 5 S) 89 5 Tryz.underlying89 Tryz.underlying5 w.heap.size 0 S.size c (S.data.toList.map fun c => (c.toNat : Int)) (by simp) (fun i hi => by
    rw [Nat.zero_add, Lib.bytesWorld_cell w _ S i hi]
    congr 2
    simp [List.getD, hi]) 9 Tryz.underlying9
  rw [h]
  congr 2
  apply WideShapes.bytes_inj
  rw [strOfNums_data, List.map_map]
  have : (fun n : Int => UInt8.ofNat n.toNat) ∘ (fun c : UInt8 => (c.toNat : Int)) = id := by funext c; simp
  rw [this, List.map_id]

theorem tokS_any (S : ByteArray) (c : Nat) (w : World) (hs : S.size ≤ 65536) (hm : MaxAt w) :
    Calls Tryz.prog 67 #[.slice (some ⟨w.heap.size, 0, none⟩) S.size c] (Lib.bytesWorld w 5 S) fun en w' => Below w.heap.size w w' ∧ TokR (Lib.bytesWorld w 5 S) (tokV S) en w' :=
  (tokens_any S (some ⟨w.heap.size, 0, none⟩) c (Lib.bytesWorld w 5 S) hs (hm.below (bw_below w S)) (bw_conv w S c)).mono fun _ _ h => ⟨(bw_below w S).trans (h.1.mono (bw_below w S).size), h.2⟩

end Go.Proofs.YteimfdfghopnaaaGreatDoor

/- What the document's own Write and Quote answer. -/
namespace Go.Proofs.YteimfdfghopnaaaGreatDoor
open Go.RowKit

set_option maxRecDepth 100000 in
set_option maxHeartbeats 4000000 in
theorem rletter_any (c : UInt8) (w : World) : Calls Tryz.prog 147 #[.int .u8 (c.toNat : Int)] w fun e w' => e = .returned (.bool (letB c)) ∧ w' = w := by
  have hlt := c.toNat_lt
  cases hb : letB c
  · have hp := of_decide_eq_false hb
    clear hb
    by_cases h1 : (97 : Int) ≤ (c.toNat : Int) <;> by_cases h2 : (c.toNat : Int) ≤ 122 <;> by_cases h3 : (65 : Int) ≤ (c.toNat : Int) <;> by_cases h4 : (c.toNat : Int) ≤ 90 <;> rcases eqb (c.toNat : Int) 95 with ⟨h5, h5b⟩ | ⟨h5, h5b⟩ <;> by_cases h6 : (128 : Int) ≤ (c.toNat : Int) <;>
    first
    | (exfalso; omega)
    | (clear hp hlt
       go_enter Tryz.func147, Tryz.ntmps147
       go_wp2_with fail
       go_ret
       exact ⟨rfl, rfl⟩)
  · have hp := of_decide_eq_true hb
    clear hb
    by_cases h1 : (97 : Int) ≤ (c.toNat : Int) <;> by_cases h2 : (c.toNat : Int) ≤ 122 <;> by_cases h3 : (65 : Int) ≤ (c.toNat : Int) <;> by_cases h4 : (c.toNat : Int) ≤ 90 <;> rcases eqb (c.toNat : Int) 95 with ⟨h5, h5b⟩ | ⟨h5, h5b⟩ <;> by_cases h6 : (128 : Int) ≤ (c.toNat : Int) <;>
    first
    | (exfalso; omega)
    | (clear hp hlt
       go_enter Tryz.func147, Tryz.ntmps147
       go_wp2_with fail
       go_ret
       exact ⟨rfl, rfl⟩)

set_option maxRecDepth 100000 in
set_option maxHeartbeats 1000000 in
theorem rdigit4_any (c : UInt8) (w : World) : Calls Tryz.prog 148 #[.int .u8 (c.toNat : Int)] w fun e w' => e = .returned (.bool (dgB c)) ∧ w' = w := by
  cases hb : dgB c
  · have hp := of_decide_eq_false hb
    clear hb
    by_cases h1 : (48 : Int) ≤ (c.toNat : Int) <;> by_cases h2 : (c.toNat : Int) ≤ 57 <;>
    first
    | (exfalso; omega)
    | (clear hp
       go_enter Tryz.func148, Tryz.ntmps148
       go_wp2_with fail
       go_ret
       exact ⟨rfl, rfl⟩)
  · have hp := of_decide_eq_true hb
    clear hb
    by_cases h1 : (48 : Int) ≤ (c.toNat : Int) <;> by_cases h2 : (c.toNat : Int) ≤ 57 <;>
    first
    | (exfalso; omega)
    | (clear hp
       go_enter Tryz.func148, Tryz.ntmps148
       go_wp2_with fail
       go_ret
       exact ⟨rfl, rfl⟩)

set_option maxRecDepth 100000 in
set_option maxHeartbeats 1000000 in
theorem rcontrol_any (c : UInt8) (w : World) : Calls Tryz.prog 149 #[.int .u8 (c.toNat : Int)] w fun e w' => e = .returned (.bool (ctlB c)) ∧ w' = w := by
  cases hb : ctlB c
  · have hp := of_decide_eq_false hb
    clear hb
    by_cases h1 : (c.toNat : Int) < 32 <;> rcases eqb (c.toNat : Int) 127 with ⟨h2, h2b⟩ | ⟨h2, h2b⟩ <;>
    first
    | (exfalso; omega)
    | (clear hp
       go_enter Tryz.func149, Tryz.ntmps149
       go_wp2_with fail
       go_ret
       exact ⟨rfl, rfl⟩)
  · have hp := of_decide_eq_true hb
    clear hb
    by_cases h1 : (c.toNat : Int) < 32 <;> rcases eqb (c.toNat : Int) 127 with ⟨h2, h2b⟩ | ⟨h2, h2b⟩ <;>
    first
    | (exfalso; omega)
    | (clear hp
       go_enter Tryz.func149, Tryz.ntmps149
       go_wp2_with fail
       go_ret
       exact ⟨rfl, rfl⟩)

theorem dsl_at (d : Nat) (h : d < 16) (w : World) : Sem.run Tryz.prog (Instr.slice 9 (.string ⟨#[48, 49, 50, 51, 52, 53, 54, 55, 56, 57, 97, 98, 99, 100, 101, 102]⟩) (some (.int .u8 (d : Int))) (some (.int .u8 ((d : Int) + 1))) none) w = .ok (.string (oneB (hx d))) w := by
  rw [run_slice_string w 9 _ .u8 .u8 (d : Int) ((d : Int) + 1) Tryz.underlying9 (by omega) (by omega) (by
    have : (⟨#[48, 49, 50, 51, 52, 53, 54, 55, 56, 57, 97, 98, 99, 100, 101, 102]⟩ : ByteArray).size = 16 := rfl
    omega)]
  obtain rfl | rfl | rfl | rfl | rfl | rfl | rfl | rfl | rfl | rfl | rfl | rfl | rfl | rfl | rfl | rfl : d = 0 ∨ d = 1 ∨ d = 2 ∨ d = 3 ∨ d = 4 ∨ d = 5 ∨ d = 6 ∨ d = 7 ∨ d = 8 ∨ d = 9 ∨ d = 10 ∨ d = 11 ∨ d = 12 ∨ d = 13 ∨ d = 14 ∨ d = 15 := by omega
  all_goals (congr 2)

set_option maxRecDepth 100000 in
set_option maxHeartbeats 1000000 in
theorem rnumber_any (c : UInt8) (w : World) : Calls Tryz.prog 150 #[.int .u8 (c.toNat : Int)] w fun e w' => e = .returned (.string (numB c)) ∧ w' = w := by
  have hc := c.toNat_lt
  obtain ⟨d, hd⟩ : ∃ d, d = c.toNat % 16 := ⟨_, rfl⟩
  obtain ⟨q, hq⟩ : ∃ q, q = c.toNat / 16 := ⟨_, rfl⟩
  have f1 : (c.toNat : Int) / 16 = (q : Int) := by omega
  have f2 : (c.toNat : Int) % 16 = (d : Int) := by omega
  have f3 : (c.toNat : Int).tdiv 16 = (q : Int) := by rw [Int.tdiv_eq_ediv_of_nonneg (by omega)]; exact f1
  have f4 : (c.toNat : Int).tmod 16 = (d : Int) := by rw [Int.tmod_eq_emod_of_nonneg (by omega)]; exact f2
  have d16 : d < 16 := by omega
  have q16 : q < 16 := by omega
  have sd := dsl_at d d16
  have sq := dsl_at q q16
  have o1 : (oneB (hx d)).size = 1 := rfl
  have o2 : (oneB (hx q)).size = 1 := rfl
  have o3 : (⟨#[92]⟩ : ByteArray).size = 1 := rfl
  have o4 : (⟨#[32]⟩ : ByteArray).size = 1 := rfl
  by_cases h : 16 ≤ c.toNat
  · have hi : (16 : Int) ≤ (c.toNat : Int) := by omega
    have hv : numB c = (⟨#[92]⟩ : ByteArray) ++ oneB (hx q) ++ oneB (hx d) ++ ⟨#[32]⟩ := by
      unfold numB hexs
      rw [if_neg (by omega), ← hd, ← hq]
      rfl
    have HV := hide hv
    generalize oneB (hx d) = A at *
    generalize oneB (hx q) = B at *
    clear hv hd hq h hc
    go_enter Tryz.func150, Tryz.ntmps150
    go_wp2_with fail
    go_ret
    exact ⟨by rw [HV.out]; rfl, rfl⟩
  · have hi : ¬ (16 : Int) ≤ (c.toNat : Int) := by omega
    have hv : numB c = (⟨#[92]⟩ : ByteArray) ++ oneB (hx d) ++ ⟨#[32]⟩ := by
      unfold numB hexs
      rw [if_pos (by omega), show d = c.toNat by omega]
      rfl
    have HV := hide hv
    generalize oneB (hx d) = A at *
    generalize oneB (hx q) = B at *
    clear hv hd hq h hc f1 f3 sq
    go_enter Tryz.func150, Tryz.ntmps150
    go_wp2_with fail
    go_ret
    exact ⟨by rw [HV.out]; rfl, rfl⟩

end Go.Proofs.YteimfdfghopnaaaGreatDoor

/- The document's own Write and Quote, byte by byte. -/
namespace Go.Proofs.YteimfdfghopnaaaGreatDoor
open Go.RowKit

theorem esc_app (E : ByteArray) (c : UInt8) : E ++ (⟨#[92]⟩ : ByteArray) ++ oneB c = E ++ escB c := by
  apply ba_ext'
  simp [ByteArray.data_append, oneB, escB]

theorem wB_one {s : ByteArray} {k : Nat} (hk : k < s.size) (h : letB s[k] = true ∨ (s[k].toNat = 45 ∧ 1 < s.size) ∨ (dgB s[k] = true ∧ firB s k = false)) : wB s k = oneB s[k] := by
  unfold wB plainB
  rw [bt_at hk]
  rcases h with h | h | ⟨h, h2⟩
  · rw [h]; simp
  · rw [decide_eq_true h]; simp
  · rw [h, h2]; simp

theorem wB_not {s : ByteArray} {k : Nat} (hk : k < s.size) (h1 : letB s[k] = false) (h2 : ¬ (s[k].toNat = 45 ∧ 1 < s.size)) (h3 : dgB s[k] = false ∨ firB s k = true) : wB s k = if (dgB s[k] || ctlB s[k]) = true then numB s[k] else escB s[k] := by
  unfold wB plainB
  rw [bt_at hk, h1, decide_eq_false h2]
  rcases h3 with h | h
  · rw [h]; simp
  · rw [h]; simp

set_option maxRecDepth 100000 in
set_option maxHeartbeats 4000000 in
theorem rwrite_any (s : ByteArray) (w : World) (hs : s.size ≤ 2000000) :
    Calls Tryz.prog 109 #[.string s] w fun e w' => e = .returned (.string (writeV s)) ∧ w' = w := by
  have cn := fun w => rname_any s w (by omega)
  unfold writeV
  cases hn : nameB s
  · rw [hn] at cn
    clear hn
    go_enter Tryz.func109, Tryz.ntmps109
    go_wp2_with (go_at_call 126; refine (cn _).mono ?_; rintro e w1 ⟨rfl, rfl⟩)
    go_ret
    exact ⟨rfl, rfl⟩
  · rw [hn] at cn
    clear hn
    go_enter Tryz.func109, Tryz.ntmps109
    go_wp2_with (go_at_call 126; refine (cn _).mono ?_; rintro e w1 ⟨rfl, rfl⟩)
    go_loopw [3, 4] (fun o i wr => ∃ k : Nat, k ≤ s.size ∧ o = .string ⟨(eb (wB s) k).toArray⟩ ∧ i = .int .i64 (k : Int) ∧ w1 = wr) (fun _ i _ => ((s.size : Int) - intOf i).toNat)
    case atStart => exact ⟨0, Nat.zero_le _, rfl, by go_num, rfl⟩
    case round =>
      obtain ⟨k, hk, rfl, rfl, rfl⟩ := hrel
      by_cases hlt : k < s.size
      · have hi : (k : Int) < (s.size : Int) := by omega
        have hq : 0 < s.size := by omega
        have hz := eb_size (wB_size s) k
        have hap := eb_app (wB s) k
        have cl := rletter_any s[k]
        have cd := rdigit4_any s[k]
        have cc := rcontrol_any s[k]
        have cu := rnumber_any s[k]
        have hsl := fun w => sl_one hlt w
        have o1 : (oneB s[k]).size = 1 := rfl
        have o2 := numB_size s[k]
        have o3 : (⟨#[92]⟩ : ByteArray).size = 1 := rfl
        have hea := esc_app (⟨(eb (wB s) k).toArray⟩ : ByteArray) s[k]
        have h1n := wB_one hlt
        have h2n := wB_not hlt
        have hf0 := bt_at hq
        have hfb : firB s k = decide (k = 0 ∨ (k = 1 ∧ s[0].toNat = 45)) := by unfold firB; rw [hf0]
        generalize hE : (⟨(eb (wB s) k).toArray⟩ : ByteArray) = E at *
        generalize hE2 : (⟨(eb (wB s) (k + 1)).toArray⟩ : ByteArray) = E2 at *
        clear hE
        rcases eqb (s[k].toNat : Int) 45 with ⟨h45, h45b⟩ | ⟨h45, h45b⟩
        · have hc : s[k] = 45 := UInt8.toNat_inj.1 (by simpa using (by omega : s[k].toNat = 45))
          have hL : letB s[k] = false := by rw [hc]; decide
          have hD : dgB s[k] = false := by rw [hc]; decide
          have hC : ctlB s[k] = false := by rw [hc]; decide
          rw [hL] at cl
          rw [hD] at cd
          rw [hC] at cc
          simp only [h45] at cl cd cc
          by_cases hz1 : 1 < s.size
          · have hz1i : (1 : Int) < (s.size : Int) := by omega
            rw [h1n (.inr (.inl ⟨by omega, hz1⟩))] at hap
            have HAP := hide hap
            have HE := hide hE2
            clear hap hE2 h1n h2n hL hD hC hc hfb hf0 hea cu
            go_wp2_with (first
              | (go_at_call 147; refine (cl _).mono ?_; rintro e w2 ⟨rfl, rfl⟩)
              | (go_at_call 148; refine (cd _).mono ?_; rintro e w2 ⟨rfl, rfl⟩)
              | (go_at_call 149; refine (cc _).mono ?_; rintro e w2 ⟨rfl, rfl⟩))
            go_round
            case rel => exact ⟨k + 1, by omega, by rw [HAP.out, ← HE.out], by go_num, trivial⟩
            case measure => simp [intOf]; omega
          · have hz1i : ¬ (1 : Int) < (s.size : Int) := by omega
            rw [h2n hL (by omega) (.inl hD), hD, hC, if_neg (by decide), ← hea] at hap
            have HAP := hide hap
            have HE := hide hE2
            clear hap hE2 h1n h2n hL hD hC hc hfb hf0 hea cu
            go_wp2_with (first
              | (go_at_call 147; refine (cl _).mono ?_; rintro e w2 ⟨rfl, rfl⟩)
              | (go_at_call 148; refine (cd _).mono ?_; rintro e w2 ⟨rfl, rfl⟩)
              | (go_at_call 149; refine (cc _).mono ?_; rintro e w2 ⟨rfl, rfl⟩))
            go_round
            case rel => exact ⟨k + 1, by omega, by rw [HAP.out, ← HE.out], by go_num, trivial⟩
            case measure => simp [intOf]; omega
        · have h45n : ¬ (s[k].toNat = 45 ∧ 1 < s.size) := by omega
          cases hL : letB s[k]
          · cases hD : dgB s[k]
            · cases hC : ctlB s[k]
              · rw [hL] at cl
                rw [hD] at cd
                rw [hC] at cc
                rw [h2n hL h45n (.inl hD), hD, hC, if_neg (by decide), ← hea] at hap
                have HAP := hide hap
                have HE := hide hE2
                clear hap hE2 h1n h2n hL hD hC hfb hf0 hea cu h45n
                go_wp2_with (first
                  | (go_at_call 147; refine (cl _).mono ?_; rintro e w2 ⟨rfl, rfl⟩)
                  | (go_at_call 148; refine (cd _).mono ?_; rintro e w2 ⟨rfl, rfl⟩)
                  | (go_at_call 149; refine (cc _).mono ?_; rintro e w2 ⟨rfl, rfl⟩))
                go_round
                case rel => exact ⟨k + 1, by omega, by rw [HAP.out, ← HE.out], by go_num, trivial⟩
                case measure => simp [intOf]; omega
              · rw [hL] at cl
                rw [hD] at cd
                rw [hC] at cc
                rw [h2n hL h45n (.inl hD), hD, hC, if_pos (by decide)] at hap
                have HAP := hide hap
                have HE := hide hE2
                generalize numB s[k] = NB at *
                clear hap hE2 h1n h2n hL hD hC hfb hf0 hea h45n
                go_wp2_with (first
                  | (go_at_call 147; refine (cl _).mono ?_; rintro e w2 ⟨rfl, rfl⟩)
                  | (go_at_call 148; refine (cd _).mono ?_; rintro e w2 ⟨rfl, rfl⟩)
                  | (go_at_call 149; refine (cc _).mono ?_; rintro e w2 ⟨rfl, rfl⟩)
                  | (go_at_call 150; refine (cu _).mono ?_; rintro e w2 ⟨rfl, rfl⟩))
                go_round
                case rel => exact ⟨k + 1, by omega, by rw [HAP.out, ← HE.out], by go_num, trivial⟩
                case measure => simp [intOf]; omega
            · rw [hL] at cl
              rw [hD] at cd
              cases hF : firB s k
              · rw [h1n (.inr (.inr ⟨hD, hF⟩))] at hap
                rw [hfb] at hF
                have hp := of_decide_eq_false hF
                have k0 : (0 : Int) < (k : Int) := by omega
                have HAP := hide hap
                have HE := hide hE2
                clear hap hE2 h1n h2n hL hD hF hfb hf0 hea cu h45n cc
                rcases eqb (k : Int) 1 with ⟨hk1, hk1b⟩ | ⟨hk1, hk1b⟩
                · obtain rfl : k = 1 := by omega
                  have hs0 : ((s[0].toNat : Int) == 45) = false := by rw [beq_eq_false_iff_ne]; omega
                  have hsl1 : ∀ w, Sem.run Tryz.prog (Instr.slice 9 (.string s) (some (.int .i64 1)) (some (.int .i64 2)) none) w = .ok (.string (oneB s[1])) w := fun w => hsl w
                  clear hp hk1 hk1b k0
                  go_wp2_with (first
                    | (go_at_call 147; refine (cl _).mono ?_; rintro e w2 ⟨rfl, rfl⟩)
                    | (go_at_call 148; refine (cd _).mono ?_; rintro e w2 ⟨rfl, rfl⟩))
                  go_round
                  case rel => exact ⟨1 + 1, by omega, by rw [HAP.out, ← HE.out], by go_num, trivial⟩
                  case measure => simp [intOf]; omega
                · clear hp
                  go_wp2_with (first
                    | (go_at_call 147; refine (cl _).mono ?_; rintro e w2 ⟨rfl, rfl⟩)
                    | (go_at_call 148; refine (cd _).mono ?_; rintro e w2 ⟨rfl, rfl⟩))
                  go_round
                  case rel => exact ⟨k + 1, by omega, by rw [HAP.out, ← HE.out], by go_num, trivial⟩
                  case measure => simp [intOf]; omega
              · rw [h2n hL h45n (.inr hF), hD, Bool.true_or, if_pos rfl] at hap
                rw [hfb] at hF
                have hp := of_decide_eq_true hF
                have HAP := hide hap
                have HE := hide hE2
                generalize numB s[k] = NB at *
                clear hap hE2 h1n h2n hL hD hF hfb hf0 hea h45n cc
                rcases hp with rfl | ⟨rfl, hs0⟩
                · go_wp2_with (first
                    | (go_at_call 147; refine (cl _).mono ?_; rintro e w2 ⟨rfl, rfl⟩)
                    | (go_at_call 148; refine (cd _).mono ?_; rintro e w2 ⟨rfl, rfl⟩)
                    | (go_at_call 150; refine (cu _).mono ?_; rintro e w2 ⟨rfl, rfl⟩))
                  go_round
                  case rel => exact ⟨0 + 1, by omega, by rw [HAP.out, ← HE.out], by go_num, trivial⟩
                  case measure => simp [intOf]; omega
                · have hs0i : (s[0].toNat : Int) = 45 := by omega
                  clear hs0
                  go_wp2_with (first
                    | (go_at_call 147; refine (cl _).mono ?_; rintro e w2 ⟨rfl, rfl⟩)
                    | (go_at_call 148; refine (cd _).mono ?_; rintro e w2 ⟨rfl, rfl⟩)
                    | (go_at_call 150; refine (cu _).mono ?_; rintro e w2 ⟨rfl, rfl⟩))
                  go_round
                  case rel => exact ⟨1 + 1, by omega, by rw [HAP.out, ← HE.out], by go_num, trivial⟩
                  case measure => simp [intOf]; omega
          · rw [hL] at cl
            rw [h1n (.inl hL)] at hap
            have HAP := hide hap
            have HE := hide hE2
            clear hap hE2 h1n h2n hL hfb hf0 hea cu h45n cc cd
            go_wp2_with (go_at_call 147; refine (cl _).mono ?_; rintro e w2 ⟨rfl, rfl⟩)
            go_round
            case rel => exact ⟨k + 1, by omega, by rw [HAP.out, ← HE.out], by go_num, trivial⟩
            case measure => simp [intOf]; omega
      · have hi : ¬ (k : Int) < (s.size : Int) := by omega
        obtain rfl : k = s.size := by omega
        go_wp2_with fail
        go_ret
        exact ⟨rfl, rfl⟩

end Go.Proofs.YteimfdfghopnaaaGreatDoor
