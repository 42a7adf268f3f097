/- All words, walked. -/
import Derived.Test.YtcgmnmfglhbcgabTok14
import Derived.Test.YtcgmnmfglhbcgabTok16
namespace Go.Proofs.Ytcgmnmfglhbcgab
open Go.RowKit

/-- The cells of words. -/
def tkCells (l : List (Wd × Nat)) : List Value := l.flatMap fun x => [.int .i64 x.1.kind, .int .i64 (x.2 : Int), .string x.1.text, .string x.1.num]
theorem tkCells_snoc (l : List (Wd × Nat)) (t : Wd) (a : Nat) : tkCells (l ++ [(t, a)]) = tkCells l ++ [.int .i64 t.kind, .int .i64 (a : Int), .string t.text, .string t.num] := by simp [tkCells]
theorem tkLen (l : List (Wd × Nat)) : (tkCells l).length = l.length * 4 := by
  induction l with
  | nil => rfl
  | cons x l ih => simp [tkCells] at ih ⊢; omega
theorem tk_info : (Try.prog.info? 37).map (fun i => (i.zero, i.size, i.bytes)) = some (some (.agg #[.int .i64 0, .int .i64 0, .string ⟨#[]⟩, .string ⟨#[]⟩]), 4, 48) := by kernel_rfl

theorem own_only {w w' : World} {R base e size n : Nat} {v : Value} {xs : List Value} (h : w.ownsRow base e size v n xs) (ho : Only R w w') (hR : R < base) : w'.ownsRow base e size v n xs := by
  obtain ⟨h1, h2⟩ := h
  refine ⟨h1, ?_⟩
  rcases h2 with h2 | ⟨g, cap, cur, hv, hg, hh, r⟩
  · exact .inl h2
  · exact .inr ⟨g, cap, cur, hv, hg, (ho.block g (Array.getElem?_eq_some_iff.1 hh).1 (by omega)).trans hh, r⟩
theorem own_below {w w' : World} {base e size n : Nat} {v : Value} {xs : List Value} (h : w.ownsRow base e size v n xs) (ho : Below w.heap.size w w') : w'.ownsRow base e size v n xs := by
  obtain ⟨h1, h2⟩ := h
  refine ⟨h1, ?_⟩
  rcases h2 with h2 | ⟨g, cap, cur, hv, hg, hh, r⟩
  · exact .inl h2
  · exact .inr ⟨g, cap, cur, hv, hg, (ho.block g (Array.getElem?_eq_some_iff.1 hh).1).trans hh, r⟩

theorem cell_four_new (w : World) (T b : Nat) (hb : b = w.heap.size) (c0 c1 c2 c3 : Value) : ∀ j u, [c0, c1, c2, c3][j]? = some u → (w.alloc (.cells #[c0, c1, c2, c3] T)).cell? ((⟨b, 0, none⟩ : Addr).add j) = some u := by
  subst hb
  intro j u h
  have hn := heap_alloc_new w (.cells #[c0, c1, c2, c3] T)
  have e : (⟨w.heap.size, 0, none⟩ : Addr).add j = ⟨w.heap.size, j, none⟩ := by simp [Addr.add]; exact fun h => h.symm
  rw [e, Lib.cell_of_heap hn]
  simpa using h

/-- The reading's blocks: the list, the fault, the reader. -/
structure RS (w : World) (s : ByteArray) (k f : Nat) (acc : List (Wd × Nat)) (v : Value) (wr : World) : Prop where
  rd : RdAt (w.heap.size + 1 + 1) s k f wr
  ls : Boxed wr w.heap.size 24 v
  own : wr.ownsRow (w.heap.size + 3) 37 4 v acc.length (tkCells acc)
  ft : wr.heap[w.heap.size + 1]? = some (.cells #[.int .i64 0, .int .i64 0] 40 (0, 0))
  bl : Below w.heap.size w wr
theorem RS.only {w : World} {s : ByteArray} {k f : Nat} {acc : List (Wd × Nat)} {v : Value} {wr w' : World} (h : RS w s k f acc v wr) (ho : Only (w.heap.size + 1 + 1) wr w') {k' f' : Nat} (hr : RdAt (w.heap.size + 1 + 1) s k' f' w') : RS w s k' f' acc v w' :=
  ⟨hr, (ho.block _ h.ls.lt (by omega)).trans h.ls, own_only h.own ho (by omega), (ho.block _ (Array.getElem?_eq_some_iff.1 h.ft).1 (by omega)).trans h.ft, h.bl.trans (ho.below (by omega) h.bl.size)⟩

/-- How read ends. -/
def ReadR (w : World) : Except (Nat × Int) (List (Wd × Nat)) → Ending → World → Prop
  | .error (a, e), en, _ => en = .returned (.tuple #[.slice none 0 0, .agg #[.int .i64 (a : Int), .int .i64 e]])
  | .ok l, en, w' => ∃ v, en = .returned (.tuple #[v, .agg #[.int .i64 0, .int .i64 0]]) ∧ w'.ownsRow (w.heap.size + 3) 37 4 v l.length (tkCells l)

theorem read_err {s : ByteArray} {F k a : Nat} {acc : List (Wd × Nat)} (h : nextV s (s.size + 1) k = .error a) : readV s (F + 1) k acc = .error (a, 30) := by rw [readV, h]
theorem read_done {s : ByteArray} {F k : Nat} {acc : List (Wd × Nat)} (h : nextV s (s.size + 1) k = .ok none) : readV s (F + 1) k acc = .ok acc := by rw [readV, h]
theorem read_bad {s : ByteArray} {F k a : Nat} {e : Int} {acc : List (Wd × Nat)} (h : nextV s (s.size + 1) k = .ok (some a)) (hw : wordV s a = .error e) : readV s (F + 1) k acc = .error (a, e) := by rw [readV, h]; simp only; rw [hw]
theorem read_step {s : ByteArray} {F k a k' : Nat} {t : Wd} {acc : List (Wd × Nat)} (h : nextV s (s.size + 1) k = .ok (some a)) (hw : wordV s a = .ok (t, k')) : readV s (F + 1) k acc = readV s F k' (acc ++ [(t, a)]) := by rw [readV, h]; simp only; rw [hw]
theorem next_le {s : ByteArray} : ∀ (F k : Nat) {a : Nat}, nextV s F k = .ok (some a) → k ≤ a ∧ a < s.size
  | 0, _, _, h => by cases h
  | F + 1, k, a, h => by
    unfold nextV at h
    split at h
    · cases h
    · split at h
      · have := next_le F _ h; omega
      · split at h
        · split at h
          · cases h
          · have := next_le F _ h; omega
        · simp only [Except.ok.injEq, Option.some.injEq] at h; omega

theorem rs_start (w : World) (s : ByteArray) : RS w s 0 0 [] (.slice none 0 0) (((w.alloc (.cells #[.slice none 0 0] 24)).alloc (.cells #[.int .i64 0, .int .i64 0] 40)).alloc (.cells #[.string s, .int .i64 0, .int .i64 0] 53)) := by
  have b1 : Below w.heap.size w (w.alloc (.cells #[.slice none 0 0] 24)) := (Below.refl _ w).alloc (Nat.le_refl _) _
  have s1 : (w.alloc (.cells #[.slice none 0 0] 24)).heap.size = w.heap.size + 1 := by simp
  have n1 := heap_alloc_new w (.cells #[.slice none 0 0] 24)
  generalize w.alloc (.cells #[.slice none 0 0] 24) = w1 at *
  have b2 := b1.alloc (by omega) (.cells #[.int .i64 0, .int .i64 0] 40)
  have s2 : (w1.alloc (.cells #[.int .i64 0, .int .i64 0] 40)).heap.size = w1.heap.size + 1 := by simp
  have n2 := heap_alloc_new w1 (.cells #[.int .i64 0, .int .i64 0] 40)
  have m1 := (Below.heap_alloc w1 (.cells #[.int .i64 0, .int .i64 0] 40) w.heap.size (by omega)).trans n1
  generalize w1.alloc (.cells #[.int .i64 0, .int .i64 0] 40) = w2 at *
  have b3 := b2.alloc (by omega) (.cells #[.string s, .int .i64 0, .int .i64 0] 53)
  have n3 := heap_alloc_new w2 (.cells #[.string s, .int .i64 0, .int .i64 0] 53)
  have m2 := (Below.heap_alloc w2 (.cells #[.string s, .int .i64 0, .int .i64 0] 53) w.heap.size (by omega)).trans m1
  have m3 := (Below.heap_alloc w2 (.cells #[.string s, .int .i64 0, .int .i64 0] 53) w1.heap.size (by omega)).trans n2
  rw [s2, s1] at n3
  rw [s1] at m3
  exact ⟨n3, m2, World.ownsRow_nil _ _ _ _, m3, b3⟩

/-- A panic goes through the door: it is recovered. -/
theorem door_bad (w : World) (v : Value) (wr : World) (tmps : Array Value) (a : Nat) (e : Int) (h2 : tmps[2]? = some (.pointer (some ⟨w.heap.size, 0, none⟩))) (h3 : tmps[3]? = some (.pointer (some ⟨w.heap.size + 1, 0, none⟩)))
    (hl : Boxed wr w.heap.size 24 v) (hf : wr.heap[w.heap.size + 1]? = some (.cells #[.int .i64 0, .int .i64 0] 40 (0, 0))) (hb : Below w.heap.size w wr) (Q : Ending → World → Prop) (hQ : ∀ en w', Below w.heap.size w w' → en = .returned (.tuple #[.slice none 0 0, .agg #[.int .i64 (a : Int), .int .i64 e]]) → Q en w') :
    bodyPostD Try.prog Try.f15 Q (.panic [{ v := .iface 40 (.agg #[.int .i64 (a : Int), .int .i64 e]), recovered := false }]) { tmps := tmps, defers := [{ target := .fn (.func 26) #[.pointer (some ⟨w.heap.size, 0, none⟩), .pointer (some ⟨w.heap.size + 1, 0, none⟩)], args := #[] }] } wr := by
  refine leaves_cons (f := 26) (args := #[.pointer (some ⟨w.heap.size, 0, none⟩), .pointer (some ⟨w.heap.size + 1, 0, none⟩)]) (by simp) (by simp [go_sem]) ?_
  refine (catch_panicking w.heap.size (w.heap.size + 1) v 0 0 a e wr hl hf (by omega)).mono ?_
  rintro en u' w2 ⟨rfl, rfl, hL, hT, hB⟩
  have c0 : w2.cell? ⟨w.heap.size, 0, none⟩ = some (.slice none 0 0) := by rw [Lib.cell_of_heap hL]; rfl
  have d0 : w2.cell? ⟨w.heap.size + 1, 0, none⟩ = some (.int .i64 (a : Int)) := by rw [Lib.cell_of_heap hT]; rfl
  have d1 : w2.cell? ⟨w.heap.size + 1, 1, none⟩ = some (.int .i64 e) := by rw [Lib.cell_of_heap hT]; rfl
  have hbb := hb.trans (hB w.heap.size (Nat.le_refl _) (by omega))
  simp [Leaves, settle, results, Try.results15, go_sem, h2, h3, c0, d0, d1]
  exact hQ _ _ hbb rfl

/-- A return goes through the door: nothing is recovered. -/
theorem door_ok (w wr : World) (v : Value) (tmps : Array Value) (h2 : tmps[2]? = some (.pointer (some ⟨w.heap.size, 0, none⟩))) (h3 : tmps[3]? = some (.pointer (some ⟨w.heap.size + 1, 0, none⟩)))
    (c0 : wr.cell? ⟨w.heap.size, 0, none⟩ = some v) (d0 : wr.cell? ⟨w.heap.size + 1, 0, none⟩ = some (.int .i64 0)) (d1 : wr.cell? ⟨w.heap.size + 1, 1, none⟩ = some (.int .i64 0)) (Q : Ending → World → Prop) (hQ : Q (.returned (.tuple #[v, .agg #[.int .i64 0, .int .i64 0]])) wr) :
    bodyPostD Try.prog Try.f15 Q .ret { tmps := tmps, defers := [{ target := .fn (.func 26) #[.pointer (some ⟨w.heap.size, 0, none⟩), .pointer (some ⟨w.heap.size + 1, 0, none⟩)], args := #[] }] } wr := by
  refine leaves_cons (f := 26) (args := #[.pointer (some ⟨w.heap.size, 0, none⟩), .pointer (some ⟨w.heap.size + 1, 0, none⟩)]) (by simp) (by simp [go_sem]) ?_
  refine (catch_idle ⟨w.heap.size, 0, none⟩ ⟨w.heap.size + 1, 0, none⟩ wr).mono ?_
  rintro en u' w2 ⟨rfl, rfl, rfl⟩
  simp [Leaves, settle, results, Try.results15, go_sem, h2, h3, c0, d0, d1]
  exact hQ

set_option maxRecDepth 100000 in
set_option maxHeartbeats 4000000 in
theorem read_any (s : ByteArray) (w : World) (hs : s.size ≤ 300000) (hm : MaxAt w) :
    Calls Try.prog 15 #[.string s] w fun en w' => Below w.heap.size w w' ∧ ReadR w (readV s (s.size + 1) 0 []) en w' := by
  have hmf : ∀ (fn : Fn) (first cap : Array Value) (w : World), (Instr.makeFunc fn first cap).run Try.prog w = .ok (.func fn first cap) w := fun _ _ _ _ => rfl
  have hst := rs_start w s
  have hg : 0 ≠ w.heap.size + 1 + 1 := by obtain ⟨m, h⟩ := hm; have := World.block_lt_of_cell? _ _ h; simp at this; omega
  have HM := hide hm
  clear hm
  go_enter_defers Try.func15, Try.ntmps15
  go_wp2_with fail
  go_loopg [] (s.size + 1) (fun F wr => ∃ k f acc v, RS w s k f acc v wr ∧ k ≤ s.size ∧ s.size < F + k ∧ acc.length + F ≤ s.size + 1 ∧ Hid (readV s (s.size + 1) 0 [] = readV s F k acc))
  case atStart => exact ⟨0, 0, [], _, hst, Nat.zero_le _, by omega, by simp, rfl⟩
  case round =>
    clear hst
    obtain ⟨k, f, acc, v, hS, hk, hF, hA, hV⟩ := hrel
    obtain ⟨F, rfl⟩ : ∃ F, gk = F + 1 := ⟨gk - 1, by omega⟩
    go_wp2_with fail
    refine (next_any (w.heap.size + 1 + 1) s k f _ hS.rd hk hs ((HM.out).below (hS.bl)) hg).mono ?_
    rintro e w1 ⟨ho, hn⟩
    cases hnv : nextV s (s.size + 1) k with
    | error a =>
      rw [hnv] at hn
      obtain rfl : e = badV a 30 := hn
      have hl := (ho.block _ hS.ls.lt (by omega)).trans hS.ls
      have hf := (ho.block _ (Array.getElem?_eq_some_iff.1 hS.ft).1 (by omega)).trans hS.ft
      have hb := hS.bl.trans (ho.below (by omega) hS.bl.size)
      refine door_bad w v w1 _ a 30 rfl rfl hl hf hb _ fun en w' hB he => ⟨hB, ?_⟩
      rw [hV.out, read_err hnv]
      exact he
    | ok o =>
      cases o with
      | none =>
        rw [hnv] at hn
        obtain ⟨rfl, k', f', hR⟩ := hn
        have hS1 := hS.only ho hR
        have c0 := hS1.ls.cell
        have z0 := hS1.ls.frozen
        have t0 : w1.cell? ⟨w.heap.size + 1, 0, none⟩ = some (.int .i64 0) := by rw [Lib.cell_of_heap hS1.ft]; rfl
        have t1 : w1.cell? ⟨w.heap.size + 1, 1, none⟩ = some (.int .i64 0) := by rw [Lib.cell_of_heap hS1.ft]; rfl
        have tz := Lib.frozen_of_heap hS1.ft
        have HS := hide hS1
        have HV := hide (hV.out.trans (read_done hnv))
        clear hS hS1 hV hnv ho hR
        obtain ⟨ao, n', cap, rfl⟩ : ∃ ao n' cap, v = .slice ao n' cap := by
          rcases (HS.out).own.2 with ⟨hv, _⟩ | ⟨g, cap, cur, hv, _⟩
          · exact ⟨_, _, _, hv⟩
          · exact ⟨_, _, _, hv⟩
        go_wp2_with fail
        refine door_ok w _ (.slice ao n' cap) _ rfl rfl (by simp [go_sem, c0]) (by simp [go_sem, t0]) (by simp [go_sem, t1]) _ ⟨?_, ?_⟩
        · exact (((HS.out).bl.setCell (p := ⟨w.heap.size, 0, none⟩) (Nat.le_refl _) _).setCell (p := ⟨w.heap.size + 1, 0, none⟩) (Nat.le_succ _) _).setCell (p := ⟨w.heap.size + 1, 1, none⟩) (Nat.le_succ _) _
        · rw [HV.out]
          exact ⟨_, rfl, ownsRow_setCell_below (ownsRow_setCell_below (ownsRow_setCell_below (HS.out).own (a := ⟨w.heap.size, 0, none⟩) (by show w.heap.size < _; omega) _) (a := ⟨w.heap.size + 1, 0, none⟩) (by show w.heap.size + 1 < _; omega) _) (a := ⟨w.heap.size + 1, 1, none⟩) (by show w.heap.size + 1 < _; omega) _⟩
      | some a =>
        rw [hnv] at hn
        obtain ⟨rfl, hR⟩ := hn
        have hS1 := hS.only ho hR
        have ha := next_le _ _ hnv
        have HN := hide hnv
        have HV := hide hV.out
        have HS := hide hS1
        clear hS hS1 hV hnv ho hR
        go_wp2_with fail
        refine (word_any (w.heap.size + 1 + 1) s a a _ (HS.out).rd ha.2 hs).mono ?_
        rintro e w2 ⟨ho2, hw2⟩
        cases hwv : wordV s a with
        | error er =>
          rw [hwv] at hw2
          obtain rfl : e = badV a er := hw2
          have hl := (ho2.block _ (HS.out).ls.lt (by omega)).trans (HS.out).ls
          have hf := (ho2.block _ (Array.getElem?_eq_some_iff.1 (HS.out).ft).1 (by omega)).trans (HS.out).ft
          have hb := (HS.out).bl.trans (ho2.below (by omega) (HS.out).bl.size)
          refine door_bad w v w2 _ a er rfl rfl hl hf hb _ fun en w' hB he => ⟨hB, ?_⟩
          rw [HV.out, read_bad HN.out hwv]
          exact he
        | ok tk =>
          obtain ⟨⟨kd, tx, nm⟩, k'⟩ := tk
          rw [hwv] at hw2
          obtain ⟨rfl, hR2⟩ : e = .returned (.agg #[.int .i64 kd, .int .i64 0, .string tx, .string nm]) ∧ RdAt (w.heap.size + 1 + 1) s k' a w2 := hw2
          have hS2 := (HS.out).only ho2 hR2
          have hwl := word_le ha.2 hwv
          have HV2 := hide (HV.out.trans (read_step HN.out hwv))
          have HS2 := hide hS2
          have c2 := hR2.c2
          have cl := hS2.ls.cell
          have zl := hS2.ls.frozen
          have hlr := hR2.lt
          have hll := hS2.ls.lt
          have al : ∀ o, (w2.alloc o).cell? ⟨w.heap.size, 0, none⟩ = some v := fun o => (World.cell?_of_block (w := w2) (Below.heap_alloc w2 o w.heap.size hll)).trans cl
          clear HS HV HN hwv ho2 hS2 hR2
          obtain ⟨i0, hi, hz0, hz1, hz2⟩ := info_parts tk_info
          have b1 : Below w2.heap.size w2 (w2.alloc (.cells #[.int .i64 kd, .int .i64 (a : Int), .string tx, .string nm] 37)) := (Below.refl _ w2).alloc (Nat.le_refl _) _
          have b2 := b1.alloc b1.size (.cells #[.int .i64 kd, .int .i64 (a : Int), .string tx, .string nm] 37)
          have own4 := own_below (HS2.out).own b2
          have hl4 := tkLen acc
          go_wp2_with (at_builtin; refine wpList_append_own _ rfl _ _ 24 rfl (w.heap.size + 3) 37 i0 _ 4 48 Try.underlying24 hi hz0 hz1 hz2 rfl (by decide) _ _ _ rfl own4 ⟨w2.heap.size + 1, 0, none⟩ 1 1 [.int .i64 kd, .int .i64 (a : Int), .string tx, .string nm] rfl rfl (cell_four_new _ _ _ (by simp) _ _ _ _) (by simp [Value.oneCell']) (by unfold maxLen; omega) (by omega) (by simp; omega) ?_)
          intro v' w5 hown' hgrow _
          obtain ⟨ao, n', cap, rfl⟩ : ∃ ao n' cap, v' = .slice ao n' cap := by
            rcases hown'.2 with ⟨hv, _⟩ | ⟨g, cap, cur, hv, _⟩
            · exact ⟨_, _, _, hv⟩
            · exact ⟨_, _, _, hv⟩
          have hrow : ∀ i, v.ownBlock = some i → w.heap.size + 3 ≤ i := fun i hi => (own4.lt i hi).1
          have hsz : w2.heap.size + 2 ≤ w5.heap.size := by have := hgrow.size; simp at this; omega
          have blk : ∀ i, i < w.heap.size + 3 → i < w2.heap.size → w5.heap[i]? = w2.heap[i]? := fun i h1 h2 =>
            (hgrow.block i (by simp; omega) (fun e => by have := hrow i e.symm; omega)).trans (b2.block i h2)
          have hl5 : Boxed w5 w.heap.size 24 v := (blk _ (by omega) hll).trans (HS2.out).ls
          have hf5 := (blk (w.heap.size + 1) (by omega) (by omega)).trans (HS2.out).ft
          have hR5 : RdAt (w.heap.size + 1 + 1) s k' a w5 := (blk (w.heap.size + 1 + 1) (by omega) hlr).trans (HS2.out).rd
          have hb5 : Below w.heap.size w w5 := ((HS2.out).bl.trans (b2.mono (HS2.out).bl.size)).grown hgrow (by have := (HS2.out).bl.size; simp; omega) (fun i hi => by have := hrow i hi; omega)
          have c5 := hl5.cell
          have z5 := hl5.frozen
          rw [show acc.length + 1 = (acc ++ [((⟨kd, tx, nm⟩ : Wd), a)]).length by simp, ← tkCells_snoc acc ⟨kd, tx, nm⟩ a] at hown'
          have hS5 : RS w s k' a (acc ++ [(⟨kd, tx, nm⟩, a)]) (.slice ao n' cap) (w5.setCell ⟨w.heap.size, 0, none⟩ (.slice ao n' cap)) :=
            ⟨hR5.setOther (by omega) 0 _, by
              show (w5.setCell ⟨w.heap.size, 0, none⟩ (.slice ao n' cap)).heap[w.heap.size]? = _
              simp [World.setCell, Array.getElem?_modify, show w5.heap[w.heap.size]? = _ from hl5], ownsRow_setCell_below hown' (by show w.heap.size < _; omega) _,
              (Below.heap_setCell _ _ _ _ (by show w.heap.size + 1 ≠ w.heap.size; omega)).trans hf5, hb5.setCell (p := ⟨w.heap.size, 0, none⟩) (Nat.le_refl _) _⟩
          have HS5 := hide hS5
          clear hS5 hown' hgrow hl5 hf5 hR5 hb5 blk hrow own4 b1 b2 HS2 al cl zl c2
          go_wp2_with fail
          go_roundg F
          case measure => omega
          case rel => exact ⟨k', a, _, _, HS5.out, hwl.2, by omega, by simp; omega, HV2⟩

end Go.Proofs.Ytcgmnmfglhbcgab
