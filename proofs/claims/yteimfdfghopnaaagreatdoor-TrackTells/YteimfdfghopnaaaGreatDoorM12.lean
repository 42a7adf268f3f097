/- The texts that this proof stands on, part 12 of 12. -/
import Derived.Test.YteimfdfghopnaaaGreatDoorM11
import Derived.Test.YteimfdfghopnaaaGreatDoorM10
import Derived.Test.YteimfdfghopnaaaGreatDoorRows
import Derived.Test.YteimfdfghopnaaaGreatDoorM5
import Derived.HandedShaped

/- Templates: what is looked at. -/
namespace Go.Proofs.YteimfdfghopnaaaGreatDoor
open Go Go.RowKit

def AnsK (P : Prop) (e : Ending) : Prop := ∃ B, e = .returned (.bool B) ∧ (B = true → P)

/-- A text of a list that lies in memory. -/
theorem str_cell {w : World} {x : PcX} {nm : List ByteArray} (h : StrAt w (.slice x.na x.nl x.nc) nm) : x.nl = nm.length ∧ ∀ k, k < nm.length → ∃ b off, x.na = some ⟨b, off, none⟩ ∧ b < w.heap.size ∧ w.cell? ⟨b, off + k, none⟩ = some (.string (nm.getD k ByteArray.empty)) := by
  obtain ⟨ao, cap, hv, hc⟩ := h
  simp at hv
  refine ⟨hv.2.1, fun k hk => ?_⟩
  obtain ⟨b, off, e, hlt, h3⟩ := hc k (nm[k]) (List.getElem?_eq_getElem hk)
  refine ⟨b, off, hv.1.trans e, hlt, ?_⟩
  rw [h3, List.getD, List.getElem?_eq_getElem hk]
  rfl

theorem getD_mem' {nm : List ByteArray} {k : Nat} (hk : k < nm.length) : nm.getD k ByteArray.empty ∈ nm := by
  rw [List.getD, List.getElem?_eq_getElem hk]
  exact List.getElem_mem hk

theorem all_getD {nm : List ByteArray} {n : Nat} (h : ∀ j, j < nm.length → (nm.getD j ByteArray.empty).size ≤ n) : ∀ s ∈ nm, s.size ≤ n := fun s hs => by
  obtain ⟨j, hj, rfl⟩ := List.getElem_of_mem hs
  have := h j hj
  rw [List.getD, List.getElem?_eq_getElem hj] at this
  exact this

/-- What stands in memory of one piece of many. -/
structure OneR (w : World) (ao : Option Addr) (i : Nat) (z : PcX) (nm : List ByteArray) : Prop where
  at' : ∃ g off, ao = some ⟨g, off, none⟩ ∧ g < w.heap.size ∧ ∀ j, j < 11 → w.cell? ⟨g, off + i * 11 + j, none⟩ = (pcX z)[j]?
  nl : z.nl = nm.length
  nc : ∀ k, k < nm.length → ∃ b off, z.na = some ⟨b, off, none⟩ ∧ b < w.heap.size ∧ w.cell? ⟨b, off + k, none⟩ = some (.string (nm.getD k ByteArray.empty))
  big : nm.length ≤ 9223372036854775807 ∧ ∀ k, k < nm.length → (nm.getD k ByteArray.empty).size ≤ 9223372036854775807

set_option maxRecDepth 100000 in
set_option maxHeartbeats 16000000 in
theorem light6_any {ao : Option Addr} {cap : Nat} {xs : List PcX} {ns : Nat → List ByteArray} {ys : Nat → List PcX} {ms : Nat → Nat → List ByteArray} (w : World) (h : RawT w ao cap xs ns ys ms) :
    Calls Tryz.prog 16 #[.slice ao xs.length cap] w fun e w' => Below w.heap.size w w' ∧ AnsK (LitR xs ns ys ms) e := by
  have HO : Hid (∀ i, i < xs.length → OneR w ao i (xs.getD i noPc) (ns i)) := hide (fun i hi => by
    have q := str_cell (h.nm i hi)
    have b := h.nl i hi
    unfold maxLen at b
    exact ⟨h.row.box ao cap rfl i hi, q.1, q.2, by omega, fun k hk => by have := b.2 _ (getD_mem' hk); omega⟩)
  have HI : Hid (∀ i, i < xs.length → ∀ j, j < (ys i).length → OneR w (xs.getD i noPc).ia j ((ys i).getD j noPc) (ms i j)) := hide (fun i hi j hj => by
    have q := str_cell (h.inm i hi j hj)
    have b := h.inl i hi j hj
    unfold maxLen at b
    have e := (h.il i hi).1
    exact ⟨(h.inn i hi).box _ _ (by rw [e]) j hj, q.1, q.2, by omega, fun k hk => by have := b.2 _ (getD_mem' hk); omega⟩)
  have HIL : Hid (∀ i, i < xs.length → (xs.getD i noPc).il = (ys i).length ∧ (ys i).length ≤ 9223372036854775807) := hide (fun i hi => by
    have := h.il i hi
    unfold maxLen at this
    omega)
  have HII : Hid (∀ i, i < xs.length → ∀ j, j < (ys i).length → ((ys i).getD j noPc).il ≤ 9223372036854775807) := hide (fun i hi j hj => by
    have := h.iil i hi j hj
    unfold maxLen at this
    omega)
  have hL : xs.length ≤ 9223372036854775807 := by
    have h1 := h.fits
    have h2 := h.most
    unfold maxLen at h2
    omega
  have HFIN : Hid (xs.length ≤ 400 → (∀ i, i < xs.length → (ys i).length ≤ 400 ∧ ((ns i).length ≤ 30 ∧ ∀ k, k < (ns i).length → ((ns i).getD k ByteArray.empty).size ≤ 100) ∧ ∀ j, j < (ys i).length → ((ys i).getD j noPc).il = 0 ∧ (ms i j).length ≤ 30 ∧ ∀ k, k < (ms i j).length → ((ms i j).getD k ByteArray.empty).size ≤ 100) → LitR xs ns ys ms) := hide (fun h1 h2 => ⟨h1, fun i hi => (h2 i hi).1, fun i hi => ⟨(h2 i hi).2.1.1, all_getD (h2 i hi).2.1.2⟩, fun i hi j hj => ⟨((h2 i hi).2.2 j hj).1, ((h2 i hi).2.2 j hj).2.1, all_getD ((h2 i hi).2.2 j hj).2.2⟩⟩)
  generalize LitR xs ns ys ms = LP at *
  obtain ⟨N, hN⟩ : ∃ N, N = xs.length := ⟨_, rfl⟩
  rw [← hN] at HO HI HIL HII hL HFIN ⊢
  clear h hN
  go_enter Tryz.func16, Tryz.ntmps16
  go_wp2_with fail
  go_loopw [3, 14] (fun c a wx => ∃ i n : Nat, i ≤ N ∧ i ≤ n ∧ n ≤ 400 ∧ a = .int .i64 (i : Int) ∧ c = .int .i64 (n : Int) ∧ Hid (∀ i', i' < i → (ys i').length ≤ 400 ∧ ((ns i').length ≤ 30 ∧ ∀ k, k < (ns i').length → ((ns i').getD k ByteArray.empty).size ≤ 100) ∧ ∀ j, j < (ys i').length → ((ys i').getD j noPc).il = 0 ∧ (ms i' j).length ≤ 30 ∧ ∀ k, k < (ms i' j).length → ((ms i' j).getD k ByteArray.empty).size ≤ 100) ∧ Hid (Below w.heap.size w wx)) (fun _ a _ => (N - intOf a).toNat)
  case atStart => exact ⟨0, 0, by omega, by omega, by omega, by go_num, by go_num, hide (fun j hj => by omega), hide (Below.refl _ _)⟩
  case round =>
    obtain ⟨i, n, hi, hin, hn, rfl, rfl, HA, HB⟩ := hrel
    by_cases hiN : i < N
    · have hib : (i : Int) < (N : Int) := by omega
      have o := (HO.out) i hiN
      have HJ := hide ((HI.out) i hiN)
      have HJL := hide ((HII.out) i hiN)
      have HILZ := hide ((HIL.out) i hiN)
      generalize xs.getD i noPc = z at *
      obtain ⟨g, off, rfl, hgl, hc⟩ := o.at'
      have q : ∀ j, j < 11 → wr.cell? ⟨g, off + i * 11 + j, none⟩ = (pcX z)[j]? := fun j hj => ((HB.out).cell (p := ⟨g, off + i * 11 + j, none⟩) hgl).trans (hc j hj)
      have c0 : wr.cell? ⟨g, off + i * 11, none⟩ = some (.int .i64 z.k) := q 0 (by decide)
      have c1 : wr.cell? ⟨g, off + i * 11 + 1, none⟩ = some (.slice z.na z.nl z.nc) := q 1 (by decide)
      have c2 : wr.cell? ⟨g, off + i * 11 + 2, none⟩ = some (.int .i64 z.t.min.1) := q 2 (by decide)
      have c3 : wr.cell? ⟨g, off + i * 11 + 3, none⟩ = some (.int .i64 z.t.min.2) := q 3 (by decide)
      have c4 : wr.cell? ⟨g, off + i * 11 + 4, none⟩ = some (.int .i64 z.t.max.1) := q 4 (by decide)
      have c5 : wr.cell? ⟨g, off + i * 11 + 5, none⟩ = some (.int .i64 z.t.max.2) := q 5 (by decide)
      have c6 : wr.cell? ⟨g, off + i * 11 + 6, none⟩ = some (.bool z.t.fit) := q 6 (by decide)
      have c7 : wr.cell? ⟨g, off + i * 11 + 7, none⟩ = some (.int .i64 z.t.limit.1) := q 7 (by decide)
      have c8 : wr.cell? ⟨g, off + i * 11 + 8, none⟩ = some (.int .i64 z.t.limit.2) := q 8 (by decide)
      have c9 : wr.cell? ⟨g, off + i * 11 + 9, none⟩ = some (.int .i64 z.c) := q 9 (by decide)
      have c10 : wr.cell? ⟨g, off + i * 11 + 10, none⟩ = some (.slice z.ia z.il z.ic) := q 10 (by decide)
      have P0 := PcS.start wr z
      unfold pcX pcC at P0
      have HB1 := hide ((HB.out).trans (P0.bel.mono (HB.out).size))
      have PP := hide P0
      have ONL := hide o.nl
      have ONC := hide o.nc
      have hbg := o.big
      clear q hc o hgl P0 HO HI HIL HII
      go_upto_region 5 with fail
      clear c0 c1 c2 c3 c4 c5 c6 c7 c8 c9 c10
      generalize World.alloc wr _ = w1 at *
      have b1 := (PP.out).cells.2.1
      have b10 := (PP.out).cells.2.2.2.2.2.2.2.2.2.2
      generalize wr.heap.size = PB at *
      have hil := HILZ.out
      rw [ONL.out] at b1
      rw [hil.1] at b10
      clear PP HB
      obtain ⟨M, hM⟩ : ∃ M, M = (ys i).length := ⟨_, rfl⟩
      rw [← hM] at b10 HJ HJL hil
      obtain ⟨IA, hIA⟩ : ∃ IA, IA = z.ia := ⟨_, rfl⟩
      rw [← hIA] at b10 HJ
      have HM := hide hM
      obtain ⟨D, hD⟩ : ∃ D, D = (ns i).length := ⟨_, rfl⟩
      rw [← hD] at b1 ONC hbg
      have HD := hide hD
      have hM63 := hil.2
      have hD63 := hbg.1
      have HDS := hide hbg.2
      clear hM hD hil hbg ONL HILZ hIA
      by_cases hbig : 400 < n + (1 + min M 1000)
      · have hbi : (400 : Int) < (n : Int) + (1 + min (M : Int) 1000) := by omega
        clear hbig
        go_wp2_with fail
        go_ret
        exact ⟨HB1.out, false, rfl, fun h => absurd h (by decide)⟩
      · have hbi : ¬ (400 : Int) < (n : Int) + (1 + min (M : Int) 1000) := by omega
        have hmin : min (M : Int) 1000 = (M : Int) := by omega
        rw [hmin] at hbi
        have hM4 : M ≤ 400 := by omega
        have hn2 : n + (1 + M) ≤ 400 := by omega
        clear hbig
        by_cases hD3 : 30 < D
        · have hdi : (30 : Int) < (D : Int) := by omega
          clear hD3
          go_wp2_with fail
          go_ret
          exact ⟨HB1.out, false, rfl, fun h => absurd h (by decide)⟩
        · have hdi : ¬ (30 : Int) < (D : Int) := by omega
          go_upto_region 9 with fail
          clear b1
          go_loopw [36] (fun a wx => ∃ k : Nat, k ≤ D ∧ a = .int .i64 (k : Int) ∧ Hid (∀ j, j < k → ((ns i).getD j ByteArray.empty).size ≤ 100) ∧ wx = w1) (fun a _ => (D - intOf a).toNat)
          case atStart => exact ⟨0, by omega, by go_num, hide (fun j hj => by omega), by first | rfl | trivial⟩
          case round =>
            obtain ⟨k, hk, rfl, HK, hwr⟩ := hrel
            subst hwr
            by_cases hkD : k < D
            · have hkb : (k : Int) < (D : Int) := by omega
              obtain ⟨b, o2, hna, hlt, hc2⟩ := (ONC.out) k hkD
              have hc3 : wr.cell? ⟨b, o2 + k, none⟩ = some (.string ((ns i).getD k ByteArray.empty)) := ((HB1.out).cell (p := ⟨b, o2 + k, none⟩) hlt).trans hc2
              have hs63 := (HDS.out) k hkD
              have HK2 : ¬ 100 < ((ns i).getD k ByteArray.empty).size → Hid (∀ j, j < k + 1 → ((ns i).getD j ByteArray.empty).size ≤ 100) := fun hb => hide (fun j hj => by
                by_cases e : j = k
                · rw [e]; omega
                · exact HK.out j (by omega))
              generalize (ns i).getD k ByteArray.empty = s at *
              have HK3 := hide HK2
              clear HK2 HK hc2 hlt
              by_cases hsz : 100 < s.size
              · have hsb : (100 : Int) < (s.size : Int) := by omega
                clear hsz HK3
                go_wp2_with fail
                go_ret
                exact ⟨HB1.out, false, rfl, fun h => absurd h (by decide)⟩
              · have hsb : ¬ (100 : Int) < (s.size : Int) := by omega
                have HK4 := (HK3.out) hsz
                clear hsz HK3
                go_wp2_with fail
                go_roundw
                case rel => exact ⟨k + 1, by omega, by go_num, HK4, by first | rfl | trivial⟩
                case measure => simp [intOf]; omega
            · have hkb : ¬ (k : Int) < (D : Int) := by omega
              have HNS : Hid ((ns i).length ≤ 30 ∧ ∀ k, k < (ns i).length → ((ns i).getD k ByteArray.empty).size ≤ 100) := hide ⟨by rw [← HD.out]; omega, fun k' hk' => HK.out k' (by rw [← HD.out] at hk'; omega)⟩
              clear HK ONC HDS
              go_upto_region 15 with fail
              clear b10
              go_loopw [47] (fun a wx => ∃ m : Nat, m ≤ M ∧ a = .int .i64 (m : Int) ∧ Hid (∀ j, j < m → ((ys i).getD j noPc).il = 0 ∧ (ms i j).length ≤ 30 ∧ ∀ k, k < (ms i j).length → ((ms i j).getD k ByteArray.empty).size ≤ 100) ∧ Hid (Below w.heap.size w wx)) (fun a _ => (M - intOf a).toNat)
              case atStart => exact ⟨0, by omega, by go_num, hide (fun j hj => by omega), HB1⟩
              case round =>
                obtain ⟨m, hm, rfl, HQ, HB3⟩ := hrel
                by_cases hmM : m < M
                · have hmb : (m : Int) < (M : Int) := by omega
                  have o := (HJ.out) m hmM
                  have hjl := (HJL.out) m hmM
                  have HQ2 : Hid (((ys i).getD m noPc).il = 0 → (ms i m).length ≤ 30 → (∀ k, k < (ms i m).length → ((ms i m).getD k ByteArray.empty).size ≤ 100) → ∀ j, j < m + 1 → ((ys i).getD j noPc).il = 0 ∧ (ms i j).length ≤ 30 ∧ ∀ k, k < (ms i j).length → ((ms i j).getD k ByteArray.empty).size ≤ 100) := hide (fun e1 e2 e3 j hj => by
                    by_cases e : j = m
                    · rw [e]; exact ⟨e1, e2, e3⟩
                    · exact HQ.out j (by omega))
                  generalize (ys i).getD m noPc = y at *
                  generalize ms i m = mm at *
                  obtain ⟨g3, off3, rfl, hgl, hc⟩ := o.at'
                  have q : ∀ j, j < 11 → wr.cell? ⟨g3, off3 + m * 11 + j, none⟩ = (pcX y)[j]? := fun j hj => ((HB3.out).cell (p := ⟨g3, off3 + m * 11 + j, none⟩) hgl).trans (hc j hj)
                  have c0 : wr.cell? ⟨g3, off3 + m * 11, none⟩ = some (.int .i64 y.k) := q 0 (by decide)
                  have c1 : wr.cell? ⟨g3, off3 + m * 11 + 1, none⟩ = some (.slice y.na y.nl y.nc) := q 1 (by decide)
                  have c2 : wr.cell? ⟨g3, off3 + m * 11 + 2, none⟩ = some (.int .i64 y.t.min.1) := q 2 (by decide)
                  have c3 : wr.cell? ⟨g3, off3 + m * 11 + 3, none⟩ = some (.int .i64 y.t.min.2) := q 3 (by decide)
                  have c4 : wr.cell? ⟨g3, off3 + m * 11 + 4, none⟩ = some (.int .i64 y.t.max.1) := q 4 (by decide)
                  have c5 : wr.cell? ⟨g3, off3 + m * 11 + 5, none⟩ = some (.int .i64 y.t.max.2) := q 5 (by decide)
                  have c6 : wr.cell? ⟨g3, off3 + m * 11 + 6, none⟩ = some (.bool y.t.fit) := q 6 (by decide)
                  have c7 : wr.cell? ⟨g3, off3 + m * 11 + 7, none⟩ = some (.int .i64 y.t.limit.1) := q 7 (by decide)
                  have c8 : wr.cell? ⟨g3, off3 + m * 11 + 8, none⟩ = some (.int .i64 y.t.limit.2) := q 8 (by decide)
                  have c9 : wr.cell? ⟨g3, off3 + m * 11 + 9, none⟩ = some (.int .i64 y.c) := q 9 (by decide)
                  have c10 : wr.cell? ⟨g3, off3 + m * 11 + 10, none⟩ = some (.slice y.ia y.il y.ic) := q 10 (by decide)
                  have P0 := PcS.start wr y
                  unfold pcX pcC at P0
                  have HB4 := hide ((HB3.out).trans (P0.bel.mono (HB3.out).size))
                  have PP := hide P0
                  have ONL := hide o.nl
                  have ONC := hide o.nc
                  have hbg := o.big
                  clear q hc o hgl P0 HQ
                  go_upto_region 17 with fail
                  clear c0 c1 c2 c3 c4 c5 c6 c7 c8 c9 c10
                  generalize World.alloc wr _ = w3 at *
                  have b1 := (PP.out).cells.2.1
                  have b10 := (PP.out).cells.2.2.2.2.2.2.2.2.2.2
                  generalize wr.heap.size = PC at *
                  rw [ONL.out] at b1
                  clear PP HB3
                  obtain ⟨E, hE⟩ : ∃ E, E = mm.length := ⟨_, rfl⟩
                  rw [← hE] at b1 ONC hbg HQ2
                  have hE63 := hbg.1
                  have HES := hide hbg.2
                  have HE := hide hE
                  clear hE hbg ONL
                  by_cases hE3 : 30 < E
                  · have hei : (30 : Int) < (E : Int) := by omega
                    clear hE3
                    go_wp2_with fail
                    go_ret
                    exact ⟨HB4.out, false, rfl, fun h => absurd h (by decide)⟩
                  · have hei : ¬ (30 : Int) < (E : Int) := by omega
                    by_cases hyl : 0 < y.il
                    · have hyi : (0 : Int) < (y.il : Int) := by omega
                      clear hyl
                      go_wp2_with fail
                      go_ret
                      exact ⟨HB4.out, false, rfl, fun h => absurd h (by decide)⟩
                    · have hyi : ¬ (0 : Int) < (y.il : Int) := by omega
                      have HQ3 := hide ((HQ2.out) (by omega) (by omega))
                      clear HQ2
                      go_upto_region 20 with fail
                      clear b1 b10
                      go_loopw [64] (fun a wx => ∃ k : Nat, k ≤ E ∧ a = .int .i64 (k : Int) ∧ Hid (∀ j, j < k → (mm.getD j ByteArray.empty).size ≤ 100) ∧ wx = w3) (fun a _ => (E - intOf a).toNat)
                      case atStart => exact ⟨0, by omega, by go_num, hide (fun j hj => by omega), by first | rfl | trivial⟩
                      case round =>
                        obtain ⟨k, hk, rfl, HK, hwr⟩ := hrel
                        subst hwr
                        by_cases hkE : k < E
                        · have hkb : (k : Int) < (E : Int) := by omega
                          obtain ⟨b, o2, hna, hlt, hc2⟩ := (ONC.out) k hkE
                          have hc3 : wr.cell? ⟨b, o2 + k, none⟩ = some (.string (mm.getD k ByteArray.empty)) := ((HB4.out).cell (p := ⟨b, o2 + k, none⟩) hlt).trans hc2
                          have hs63 := (HES.out) k hkE
                          have HK2 : ¬ 100 < (mm.getD k ByteArray.empty).size → Hid (∀ j, j < k + 1 → (mm.getD j ByteArray.empty).size ≤ 100) := fun hb => hide (fun j hj => by
                            by_cases e : j = k
                            · rw [e]; omega
                            · exact HK.out j (by omega))
                          generalize mm.getD k ByteArray.empty = s at *
                          have HK3 := hide HK2
                          clear HK2 HK hc2 hlt
                          by_cases hsz : 100 < s.size
                          · have hsb : (100 : Int) < (s.size : Int) := by omega
                            clear hsz HK3
                            go_wp2_with fail
                            go_ret
                            exact ⟨HB4.out, false, rfl, fun h => absurd h (by decide)⟩
                          · have hsb : ¬ (100 : Int) < (s.size : Int) := by omega
                            have HK4 := (HK3.out) hsz
                            clear hsz HK3
                            go_wp2_with fail
                            go_roundw
                            case rel => exact ⟨k + 1, by omega, by go_num, HK4, by first | rfl | trivial⟩
                            case measure => simp [intOf]; omega
                        · have hkb : ¬ (k : Int) < (E : Int) := by omega
                          have HQ4 := hide ((HQ3.out) (fun k' hk' => HK.out k' (by omega)))
                          clear HK ONC HES HQ3
                          go_wp2_with fail
                          go_roundw
                          case rel => exact ⟨m + 1, by omega, by go_num, HQ4, HB4⟩
                          case measure => simp [intOf]; omega
                · have hmb : ¬ (m : Int) < (M : Int) := by omega
                  have HA2 : Hid (∀ i', i' < i + 1 → (ys i').length ≤ 400 ∧ ((ns i').length ≤ 30 ∧ ∀ k, k < (ns i').length → ((ns i').getD k ByteArray.empty).size ≤ 100) ∧ ∀ j, j < (ys i').length → ((ys i').getD j noPc).il = 0 ∧ (ms i' j).length ≤ 30 ∧ ∀ k, k < (ms i' j).length → ((ms i' j).getD k ByteArray.empty).size ≤ 100) := hide (fun i' hi' => by
                    by_cases e : i' = i
                    · rw [e]
                      exact ⟨by rw [← HM.out]; exact hM4, HNS.out, fun j hj => HQ.out j (by rw [← HM.out] at hj; omega)⟩
                    · exact HA.out i' (by omega))
                  clear HA HQ HNS
                  go_wp2_with fail
                  go_roundw
                  case rel => exact ⟨i + 1, n + (1 + M), by omega, by omega, hn2, by go_num, by go_num, HA2, HB3⟩
                  case measure => simp [intOf]; omega
    · have hib : ¬ (i : Int) < (N : Int) := by omega
      have hv := (HFIN.out) (by omega) (fun j hj => HA.out j (by omega))
      have HV := hide hv
      clear hv HA
      go_wp2_with fail
      go_ret
      exact ⟨HB.out, true, rfl, fun _ => HV.out⟩

end Go.Proofs.YteimfdfghopnaaaGreatDoor

/- TrackTells: the statement's own walk. -/
namespace Go.Proofs.YteimfdfghopnaaaGreatDoor
open Go Go.RowKit

theorem trQ_refl (t : TrD) : trQ t t = true := by unfold trQ; simp

theorem lfQ_refl (q : LfE) : lfQ q q = true := by unfold lfQ; simp [trQ_refl]

theorem allB_true {n : Nat} {f : Nat → Bool} (h : ∀ i, i < n → f i = true) : allB n f = true := by
  unfold allB
  rw [List.all_eq_true]
  intro i hi
  exact h i (List.mem_range.1 hi)

theorem innQ_refl (qs : List LfE) : innQ qs qs = true := by
  unfold innQ
  rw [allB_true (fun i _ => lfQ_refl _)]
  simp

theorem pcQ_refl (p : PcE) : pcQ p p = true := by unfold pcQ; simp [trQ_refl, innQ_refl]

theorem sameT_refl (ps : List PcE) : sameT ps ps = true := by
  unfold sameT
  rw [allB_true (fun i _ => pcQ_refl _)]
  simp

structure TtS (w W : World) (t : TrD) (va vb : Value) (ps qs : List PcE) : Prop where
  rt : RtS w W t
  te : TE W
  a : TpI W va ps
  b : TpI W vb qs

theorem TtS.next {w W W' : World} {t : TrD} {va vb : Value} {ps qs : List PcE} (h : TtS w W t va vb ps qs) (hb : Below W.heap.size W W') : TtS w W' t va vb ps qs := ⟨h.rt.next hb, h.te.below hb, h.a.below hb, h.b.below hb⟩

structure TrwS (w W : World) (t : TrD) (aa ab : Option Addr) (ca cb : Nat) (xs xs2 : List PcX) (ns ns2 : Nat → List ByteArray) (ys ys2 : Nat → List PcX) (ms ms2 : Nat → Nat → List ByteArray) : Prop where
  rt : RtS w W t
  te : TE W
  a : RawT W aa ca xs ns ys ms
  b : RawT W ab cb xs2 ns2 ys2 ms2

theorem TrwS.next {w W W' : World} {t : TrD} {aa ab : Option Addr} {ca cb : Nat} {xs xs2 : List PcX} {ns ns2 : Nat → List ByteArray} {ys ys2 : Nat → List PcX} {ms ms2 : Nat → Nat → List ByteArray} (h : TrwS w W t aa ab ca cb xs xs2 ns ns2 ys ys2 ms ms2) (hb : Below W.heap.size W W') : TrwS w W' t aa ab ca cb xs xs2 ns ns2 ys ys2 ms ms2 := ⟨h.rt.next hb, h.te.below hb, h.a.below hb, h.b.below hb⟩

set_option maxRecDepth 100000 in
set_option maxHeartbeats 16000000 in
theorem trackTells_walk (a1 a2 a3 a4 : Int) (a5 : Bool) (a6 a7 : Int) (aa ab : Option Addr) (ca cb : Nat) (xs xs2 : List PcX) (ns ns2 : Nat → List ByteArray) (ys ys2 : Nat → List PcX) (ms ms2 : Nat → Nat → List ByteArray) (w : World) (ha : RawT w aa ca xs ns ys ms) (hb : RawT w ab cb xs2 ns2 ys2 ms2) (hk : TE w) :
    Calls Tryz.prog 4 #[.agg #[.int .i64 a1, .int .i64 a2, .int .i64 a3, .int .i64 a4, .bool a5, .int .i64 a6, .int .i64 a7], .slice aa xs.length ca, .slice ab xs2.length cb] w fun e w' => e = .returned (.bool true) ∧ Below w.heap.size w w' := by
  have rs : RtS w (w.alloc (.cells #[.int .i64 a1, .int .i64 a2, .int .i64 a3, .int .i64 a4, .bool a5, .int .i64 a6, .int .i64 a7] 28)) ⟨(a1, a2), (a3, a4), a5, (a6, a7)⟩ := RtS.start w ⟨(a1, a2), (a3, a4), a5, (a6, a7)⟩
  have st : TrwS w (w.alloc (.cells #[.int .i64 a1, .int .i64 a2, .int .i64 a3, .int .i64 a4, .bool a5, .int .i64 a6, .int .i64 a7] 28)) ⟨(a1, a2), (a3, a4), a5, (a6, a7)⟩ aa ab ca cb xs xs2 ns ns2 ys ys2 ms ms2 := ⟨rs, hk.below rs.bel, ha.below rs.bel, hb.below rs.bel⟩
  have C1 := hide (fun W (h : TrwS w W ⟨(a1, a2), (a3, a4), a5, (a6, a7)⟩ aa ab ca cb xs xs2 ns ns2 ys ys2 ms ms2) => (light6_any W h.a).mono fun e W' hh => (show AnsK (LitR xs ns ys ms) e ∧ TrwS w W' ⟨(a1, a2), (a3, a4), a5, (a6, a7)⟩ aa ab ca cb xs xs2 ns ns2 ys ys2 ms ms2 from ⟨hh.2, h.next hh.1⟩))
  have C2 := hide (fun W (h : TrwS w W ⟨(a1, a2), (a3, a4), a5, (a6, a7)⟩ aa ab ca cb xs xs2 ns ns2 ys ys2 ms ms2) => (light6_any W h.b).mono fun e W' hh => (show AnsK (LitR xs2 ns2 ys2 ms2) e ∧ TrwS w W' ⟨(a1, a2), (a3, a4), a5, (a6, a7)⟩ aa ab ca cb xs xs2 ns ns2 ys ys2 ms ms2 from ⟨hh.2, h.next hh.1⟩))
  have CV := hide (fun W (h : TrwS w W ⟨(a1, a2), (a3, a4), a5, (a6, a7)⟩ aa ab ca cb xs xs2 ns ns2 ys ys2 ms ms2) => (lives6_any W ⟨h.te.kw, h.te.mx⟩).mono fun _ _ hh => And.intro hh.1 (h.next hh.2))
  have ST0 := hide st
  clear st rs hk ha hb
  go_enter Tryz.func4, Tryz.ntmps4
  go_upto_region 1 with fail
  generalize World.alloc w _ = w1 at *
  go_wp2_with fail
  refine Calls.mono ((C1.out) w1 ST0.out) ?_
  rintro e w2 ⟨⟨B1, rfl, hl1⟩, hq⟩
  have ST2 := hide hq
  have HL1 := hide hl1
  clear hq ST0 C1 hl1
  cases B1
  · go_wp2_with fail
    refine Calls.mono ((CV.out) w2 ST2.out) ?_
    rintro e w3 ⟨rfl, hq⟩
    have ST3 := hide hq
    clear hq
    go_wp2_with fail
    go_ret
    exact ⟨rfl, (ST3.out).rt.bel⟩
  · have HR1 := hide ((HL1.out) rfl)
    clear HL1
    go_wp2_with fail
    refine Calls.mono ((C2.out) w2 ST2.out) ?_
    rintro e w3 ⟨⟨B2, rfl, hl2⟩, hq⟩
    have ST3 := hide hq
    have HL2 := hide hl2
    clear hq ST2 C2 hl2
    cases B2
    · go_wp2_with fail
      refine Calls.mono ((CV.out) w3 ST3.out) ?_
      rintro e w4 ⟨rfl, hq⟩
      have ST4 := hide hq
      clear hq
      go_wp2_with fail
      go_ret
      exact ⟨rfl, (ST4.out).rt.bel⟩
    · have HR2 := hide ((HL2.out) rfl)
      clear HL2 CV
      go_upto_region 3 with fail
      have hq := ST3.out
      have hla := raw_LiT HR1.out
      have hta := raw_TpI hq.a HR1.out
      have htb := raw_TpI hq.b HR2.out
      have st3 : TtS w w3 ⟨(a1, a2), (a3, a4), a5, (a6, a7)⟩ (.slice aa xs.length ca) (.slice ab xs2.length cb) (rawE xs ns ys ms) (rawE xs2 ns2 ys2 ms2) := ⟨hq.rt, hq.te, hta, htb⟩
      generalize rawE xs ns ys ms = ps at *
      generalize rawE xs2 ns2 ys2 ms2 = qs at *
      have ST3' := hide st3
      clear hq hta htb st3 ST3 HR1 HR2
      have CL := hide (fun W (h : TtS w W ⟨(a1, a2), (a3, a4), a5, (a6, a7)⟩ (.slice aa xs.length ca) (.slice ab xs2.length cb) ps qs) => (lives6_any W ⟨h.te.kw, h.te.mx⟩).mono fun _ _ hh => And.intro hh.1 (h.next hh.2))
      have CF := hide (fun W (h : TtS w W ⟨(a1, a2), (a3, a4), a5, (a6, a7)⟩ (.slice aa xs.length ca) (.slice ab xs2.length cb) ps qs) => (fixed_any ⟨(a1, a2), (a3, a4), a5, (a6, a7)⟩ W).mono fun _ _ hh => And.intro hh.1 (h.next hh.2))
      have CF2 := hide (fun W (h : TtS w W ⟨(a1, a2), (a3, a4), a5, (a6, a7)⟩ (.slice aa xs.length ca) (.slice ab xs2.length cb) ps qs) => (rfixed6_any ⟨(a1, a2), (a3, a4), a5, (a6, a7)⟩ W).mono fun _ _ hh => And.intro hh.1 (h.next hh.2))
      have CR := hide (fun W (h : TtS w W ⟨(a1, a2), (a3, a4), a5, (a6, a7)⟩ (.slice aa xs.length ca) (.slice ab xs2.length cb) ps qs) => (right_any ⟨(a1, a2), (a3, a4), a5, (a6, a7)⟩ W h.te.kw).mono fun _ _ hh => And.intro hh.1 (h.next hh.2))
      have CR2 := hide (fun W (h : TtS w W ⟨(a1, a2), (a3, a4), a5, (a6, a7)⟩ (.slice aa xs.length ca) (.slice ab xs2.length cb) ps qs) => (rright_any ⟨(a1, a2), (a3, a4), a5, (a6, a7)⟩ W).mono fun _ _ hh => And.intro hh.1 (h.next hh.2))
      have CZ := hide (fun W (h : TtS w W ⟨(a1, a2), (a3, a4), a5, (a6, a7)⟩ (.slice aa xs.length ca) (.slice ab xs2.length cb) ps qs) => (sizeText_any ⟨(a1, a2), (a3, a4), a5, (a6, a7)⟩ W h.te).mono fun _ _ hh => And.intro hh.1 (h.next hh.2))
      have CZ2 := hide (fun W (h : TtS w W ⟨(a1, a2), (a3, a4), a5, (a6, a7)⟩ (.slice aa xs.length ca) (.slice ab xs2.length cb) ps qs) => (rsizeText_any ⟨(a1, a2), (a3, a4), a5, (a6, a7)⟩ W).mono fun _ _ hh => And.intro hh.1 (h.next hh.2))
      have CG := hide (fun W (h : TtS w W ⟨(a1, a2), (a3, a4), a5, (a6, a7)⟩ (.slice aa xs.length ca) (.slice ab xs2.length cb) ps qs) => (good6_any (.slice aa xs.length ca) ps W h.te.kw h.a hla).mono fun _ _ hh => And.intro hh.1 (h.next hh.2))
      have CG2 := hide (fun W (h : TtS w W ⟨(a1, a2), (a3, a4), a5, (a6, a7)⟩ (.slice aa xs.length ca) (.slice ab xs2.length cb) ps qs) => (rgoodT_any (.slice aa xs.length ca) ps W h.a hla).mono fun _ _ hh => And.intro hh.1 (h.next hh.2))
      have CT := hide (fun W (h : TtS w W ⟨(a1, a2), (a3, a4), a5, (a6, a7)⟩ (.slice aa xs.length ca) (.slice ab xs2.length cb) ps qs) => (text6_any (.slice aa xs.length ca) ps W h.te h.a hla).mono fun _ _ hh => And.intro hh.1 (h.next hh.2))
      have CT2 := hide (fun W (h : TtS w W ⟨(a1, a2), (a3, a4), a5, (a6, a7)⟩ (.slice aa xs.length ca) (.slice ab xs2.length cb) ps qs) => (rtextT_any (.slice aa xs.length ca) ps W h.a hla).mono fun _ _ hh => And.intro hh.1 (h.next hh.2))
      have CS : Hid (∀ u us W, TtS w W ⟨(a1, a2), (a3, a4), a5, (a6, a7)⟩ (.slice aa xs.length ca) (.slice ab xs2.length cb) ps qs → ((u = .slice ab xs2.length cb ∧ us = qs) ∨ (u = .slice aa xs.length ca ∧ us = ps)) → Calls Tryz.prog 27 #[.slice aa xs.length ca, u] W fun e w' => e = .returned (.bool (sameT ps us)) ∧ TtS w w' ⟨(a1, a2), (a3, a4), a5, (a6, a7)⟩ (.slice aa xs.length ca) (.slice ab xs2.length cb) ps qs) := hide (fun u us W h hm => by
        rcases hm with ⟨rfl, rfl⟩ | ⟨rfl, rfl⟩
        · exact (same6_any _ _ _ _ W h.a h.b hla).mono fun _ _ hh => And.intro hh.1 (h.next hh.2)
        · exact (same6_any _ _ _ _ W h.a h.a hla).mono fun _ _ hh => And.intro hh.1 (h.next hh.2))
      have CS2 := hide (fun W (h : TtS w W ⟨(a1, a2), (a3, a4), a5, (a6, a7)⟩ (.slice aa xs.length ca) (.slice ab xs2.length cb) ps qs) => (rsame6_any (.slice aa xs.length ca) (.slice ab xs2.length cb) ps qs W h.a h.b hla).mono fun _ _ hh => And.intro hh.1 (h.next hh.2))
      have HSS := hide (sameT_refl ps)
      generalize sameT ps = SF at *
      generalize textT ps = TX at *
      generalize goodT ps = GB at *
      generalize szTxt ⟨(a1, a2), (a3, a4), a5, (a6, a7)⟩ = ZT at *
      generalize rightB ⟨(a1, a2), (a3, a4), a5, (a6, a7)⟩ = RB at *
      generalize fixB ⟨(a1, a2), (a3, a4), a5, (a6, a7)⟩ = FB at *
      have CSA := hide (fun W h => (CS.out) (.slice ab xs2.length cb) qs W h (Or.inl ⟨rfl, rfl⟩))
      have CSB := hide (fun W h => (CS.out) (.slice aa xs.length ca) ps W h (Or.inr ⟨rfl, rfl⟩))
      rw [HSS.out] at CSB
      generalize SF qs = SQ at *
      clear CS HSS hla
      have ST4 : Hid (TtS w w3.drew ⟨(a1, a2), (a3, a4), a5, (a6, a7)⟩ (.slice aa xs.length ca) (.slice ab xs2.length cb) ps qs) := hide ((ST3'.out).next (Below.refl _ w3).drew)
      clear ST3'
      obtain ⟨c0, c1, c2, c3, c4, c5, c6⟩ := (ST4.out).rt.cells
      go_region_held3 (fun w' => w'.cell? ⟨w.heap.size, 0, none⟩ = some (.int .i64 a1) ∧ w'.cell? ⟨w.heap.size, 1, none⟩ = some (.int .i64 a2) ∧ w'.cell? ⟨w.heap.size, 2, none⟩ = some (.int .i64 a3) ∧ w'.cell? ⟨w.heap.size, 3, none⟩ = some (.int .i64 a4) ∧ w'.cell? ⟨w.heap.size, 4, none⟩ = some (.bool a5) ∧ w'.cell? ⟨w.heap.size, 5, none⟩ = some (.int .i64 a6) ∧ w'.cell? ⟨w.heap.size, 6, none⟩ = some (.int .i64 a7) ∧ Hid (TtS w w' ⟨(a1, a2), (a3, a4), a5, (a6, a7)⟩ (.slice aa xs.length ca) (.slice ab xs2.length cb) ps qs))
        (first | exact ⟨by assumption, by assumption, by assumption, by assumption, by assumption, by assumption, by assumption, by assumption⟩ | go_keep)
        (first
          | (go_at_call 17; refine ((CF.out) _ (by assumption : Hid (TtS w _ ⟨(a1, a2), (a3, a4), a5, (a6, a7)⟩ (.slice aa xs.length ca) (.slice ab xs2.length cb) ps qs)).out).mono ?_; rintro e w' ⟨rfl, hq⟩; obtain ⟨q0, q1, q2, q3, q4, q5, q6⟩ := hq.rt.cells; have HQ := hide hq; clear hq)
          | (go_at_call 18; refine ((CF2.out) _ (by assumption : Hid (TtS w _ ⟨(a1, a2), (a3, a4), a5, (a6, a7)⟩ (.slice aa xs.length ca) (.slice ab xs2.length cb) ps qs)).out).mono ?_; rintro e w' ⟨rfl, hq⟩; obtain ⟨q0, q1, q2, q3, q4, q5, q6⟩ := hq.rt.cells; have HQ := hide hq; clear hq)
          | (go_at_call 19; refine ((CR.out) _ (by assumption : Hid (TtS w _ ⟨(a1, a2), (a3, a4), a5, (a6, a7)⟩ (.slice aa xs.length ca) (.slice ab xs2.length cb) ps qs)).out).mono ?_; rintro e w' ⟨rfl, hq⟩; obtain ⟨q0, q1, q2, q3, q4, q5, q6⟩ := hq.rt.cells; have HQ := hide hq; clear hq)
          | (go_at_call 20; refine ((CR2.out) _ (by assumption : Hid (TtS w _ ⟨(a1, a2), (a3, a4), a5, (a6, a7)⟩ (.slice aa xs.length ca) (.slice ab xs2.length cb) ps qs)).out).mono ?_; rintro e w' ⟨rfl, hq⟩; obtain ⟨q0, q1, q2, q3, q4, q5, q6⟩ := hq.rt.cells; have HQ := hide hq; clear hq)
          | (go_at_call 21; refine ((CZ.out) _ (by assumption : Hid (TtS w _ ⟨(a1, a2), (a3, a4), a5, (a6, a7)⟩ (.slice aa xs.length ca) (.slice ab xs2.length cb) ps qs)).out).mono ?_; rintro e w' ⟨rfl, hq⟩; obtain ⟨q0, q1, q2, q3, q4, q5, q6⟩ := hq.rt.cells; have HQ := hide hq; clear hq)
          | (go_at_call 22; refine ((CZ2.out) _ (by assumption : Hid (TtS w _ ⟨(a1, a2), (a3, a4), a5, (a6, a7)⟩ (.slice aa xs.length ca) (.slice ab xs2.length cb) ps qs)).out).mono ?_; rintro e w' ⟨rfl, hq⟩; obtain ⟨q0, q1, q2, q3, q4, q5, q6⟩ := hq.rt.cells; have HQ := hide hq; clear hq)
          | (go_at_call 23; refine ((CG.out) _ (by assumption : Hid (TtS w _ ⟨(a1, a2), (a3, a4), a5, (a6, a7)⟩ (.slice aa xs.length ca) (.slice ab xs2.length cb) ps qs)).out).mono ?_; rintro e w' ⟨rfl, hq⟩; obtain ⟨q0, q1, q2, q3, q4, q5, q6⟩ := hq.rt.cells; have HQ := hide hq; clear hq)
          | (go_at_call 24; refine ((CG2.out) _ (by assumption : Hid (TtS w _ ⟨(a1, a2), (a3, a4), a5, (a6, a7)⟩ (.slice aa xs.length ca) (.slice ab xs2.length cb) ps qs)).out).mono ?_; rintro e w' ⟨rfl, hq⟩; obtain ⟨q0, q1, q2, q3, q4, q5, q6⟩ := hq.rt.cells; have HQ := hide hq; clear hq)
          | (go_at_call 25; refine ((CT.out) _ (by assumption : Hid (TtS w _ ⟨(a1, a2), (a3, a4), a5, (a6, a7)⟩ (.slice aa xs.length ca) (.slice ab xs2.length cb) ps qs)).out).mono ?_; rintro e w' ⟨rfl, hq⟩; obtain ⟨q0, q1, q2, q3, q4, q5, q6⟩ := hq.rt.cells; have HQ := hide hq; clear hq)
          | (go_at_call 26; refine ((CT2.out) _ (by assumption : Hid (TtS w _ ⟨(a1, a2), (a3, a4), a5, (a6, a7)⟩ (.slice aa xs.length ca) (.slice ab xs2.length cb) ps qs)).out).mono ?_; rintro e w' ⟨rfl, hq⟩; obtain ⟨q0, q1, q2, q3, q4, q5, q6⟩ := hq.rt.cells; have HQ := hide hq; clear hq)
          | (go_at_call 28; refine ((CS2.out) _ (by assumption : Hid (TtS w _ ⟨(a1, a2), (a3, a4), a5, (a6, a7)⟩ (.slice aa xs.length ca) (.slice ab xs2.length cb) ps qs)).out).mono ?_; rintro e w' ⟨rfl, hq⟩; obtain ⟨q0, q1, q2, q3, q4, q5, q6⟩ := hq.rt.cells; have HQ := hide hq; clear hq)
          | (go_at_call 8; refine ((CL.out) _ (by assumption : Hid (TtS w _ ⟨(a1, a2), (a3, a4), a5, (a6, a7)⟩ (.slice aa xs.length ca) (.slice ab xs2.length cb) ps qs)).out).mono ?_; rintro e w' ⟨rfl, hq⟩; obtain ⟨q0, q1, q2, q3, q4, q5, q6⟩ := hq.rt.cells; have HQ := hide hq; clear hq)
          | (go_at_call 27; refine ((CSA.out) _ (by assumption : Hid (TtS w _ ⟨(a1, a2), (a3, a4), a5, (a6, a7)⟩ (.slice aa xs.length ca) (.slice ab xs2.length cb) ps qs)).out).mono ?_; rintro e w' ⟨rfl, hq⟩; obtain ⟨q0, q1, q2, q3, q4, q5, q6⟩ := hq.rt.cells; have HQ := hide hq; clear hq)
          | (go_at_call 27; refine ((CSB.out) _ (by assumption : Hid (TtS w _ ⟨(a1, a2), (a3, a4), a5, (a6, a7)⟩ (.slice aa xs.length ca) (.slice ab xs2.length cb) ps qs)).out).mono ?_; rintro e w' ⟨rfl, hq⟩; obtain ⟨q0, q1, q2, q3, q4, q5, q6⟩ := hq.rt.cells; have HQ := hide hq; clear hq))
      go_wp2_with fail
      go_ret
      exact ⟨rfl, (by assumption : Hid (TtS w _ ⟨(a1, a2), (a3, a4), a5, (a6, a7)⟩ (.slice aa xs.length ca) (.slice ab xs2.length cb) ps qs)).out.rt.bel⟩

end Go.Proofs.YteimfdfghopnaaaGreatDoor

/- A row with laid tables whose walk wants the world's shape besides. -/
namespace Go.Proofs.YteimfdfghopnaaaGreatDoor
open Go.RowKit

theorem handed_both {H : Type} {enc : TypeId × Value → H} {a : Assume} {C : Checked} {os : Os} {f : FuncId} {fn : Func} {s : ChangeSpec} {conds : List PathCond} {apart fresh handsOn again : Bool} {X : World → Array Value → Prop}
    (hX : ∀ (w w' : World) (args : Array Value), w.heap = w'.heap → X w args → X w' args)
    (own : ownKnob C.prog.godebug = none) (started : os.Started) (noInit : C.prog.inits.idxOf? f = none) (hfn : C.prog.funcs[f]? = some fn)
    (witness : ∃ (w : World) (tape : Tape) (i : Input), w.os = os ∧ (w.forCall tape i).Shaped C.prog ∧ i.vars = [] ∧ Input.okWide C.prog (w.forCall tape i) .any w.heap.size f i ∧
      ((s.pre enc C.prog fn conds apart (w.forCall tape i).memory i.args ∧ X (w.forCall tape i).memory i.args) ∧ sizedMet enc C.prog fn (OpenSpec.ofChange s) apart (w.forCall tape i).memory i.args) ∧ a.holds C.prog (lone (Frame.enter C.prog f i.args .normal) [] (w.forCall tape i)))
    (walk : ∀ (W : World) (base : Nat) (args : Array Value) (ds gs : List (DataW H)) (before : List MemPlace),
      (∀ (j : Nat) t v, fn.params[j]? = some t → args[j]? = some v → Value.okWide C.prog W .any base t v) →
      DataW.Whole enc C.prog fn.params.toList s.vars apart W args.toList ds gs before → X W args → W.ShapedOpen C.prog →
      Calls C.prog f args W fun e W' => ∃ v, e = .returned v ∧ s.post enc C.prog fn apart fresh handsOn again W args v W') :
    ReturnsInHanded a C os f .any (fun w args => (s.pre enc C.prog fn conds apart w args ∧ X w args) ∧ sizedMet enc C.prog fn (OpenSpec.ofChange s) apart w args) (s.post enc C.prog fn apart fresh handsOn again) := by
  refine returnsInHanded_of_calls own started noInit witness ?_
  intro w tape i _ hsh _ hok hpre _
  obtain ⟨_, _, _, g, hg, _, _, _, _, hval⟩ := hok
  obtain rfl : g = fn := Option.some.inj (hg.symm.trans hfn)
  obtain ⟨⟨⟨ds, gs, before, hw, _⟩, hx⟩, _⟩ := hpre
  have hw' := DataW.Whole.of_heap (w' := w.forCall tape i) (by rfl) hw
  refine (walk (w.forCall tape i) w.heap.size i.args ds gs before hval hw' (hX _ _ _ (by rfl) hx) hsh).mono fun e W' ⟨v, he, hp⟩ => ?_
  subst he
  exact ChangeSpec.post_blind hp

theorem max_of {w : World} (h : w.ShapedOpen Tryz.prog) : MaxAt w := Tryz.laysM143.s1_3 w h

end Go.Proofs.YteimfdfghopnaaaGreatDoor

/- A track and a template that come in, as arguments. -/
namespace Go.Proofs.YteimfdfghopnaaaGreatDoor
open Go Go.ChangeShapes Go.WideShapes Go.RowKit

section

variable {H : Type} {enc : TypeId × Value → H} {w : World} {base : Nat} {spare : Nat → Bool} {held : Bool}

set_option maxRecDepth 100000 in
theorem open_trk6 {r : Reach} {b0 : Nat} {v : Value} {d : DataW H} {ps : List MemPlace} (hval : Value.okWide Tryz.prog w r b0 28 v) (hd : DataW.Trod enc Tryz.prog w base spare held 28 v d ps) :
    ∃ (a1 a2 a3 a4 : Int) (a5 : Bool) (a6 a7 : Int), v = .agg #[.int .i64 a1, .int .i64 a2, .int .i64 a3, .int .i64 a4, .bool a5, .int .i64 a6, .int .i64 a7] := by
  obtain ⟨fuel, hf⟩ := hd
  obtain ⟨t, hc⟩ := trod_trk11 hf
  unfold Value.okWide at hval
  rw [Tryz.underlying28 ] at hval
  obtain ⟨cs, rfl, _⟩ := hval
  obtain ⟨⟨a1, a2⟩, ⟨a3, a4⟩, a5, ⟨a6, a7⟩⟩ := t
  refine ⟨a1, a2, a3, a4, a5, a6, a7, ?_⟩
  congr 1
  have : cs.toList = (trC ⟨(a1, a2), (a3, a4), a5, (a6, a7)⟩).toList := hc
  exact Array.toList_inj.1 this

set_option maxRecDepth 100000 in
theorem okw_pcs {r : Reach} {b0 : Nat} {v : Value} (hval : Value.okWide Tryz.prog w r b0 46 v) : v.cells.toList = [v] := by
  unfold Value.okWide at hval
  rw [Tryz.underlying46 ] at hval
  cases v <;> simp_all [Cell.okWide, Cell.ok, Value.cells]

set_option maxRecDepth 100000 in
theorem open_pcs6 {r : Reach} {b0 : Nat} {v : Value} {d : DataW H} {ps : List MemPlace} (hval : Value.okWide Tryz.prog w r b0 46 v) (hd : DataW.Trod enc Tryz.prog w base spare held 46 v d ps) :
    ∃ ao cap xs ns ys ms, v = .slice ao xs.length cap ∧ RawT w ao cap xs ns ys ms := by
  obtain ⟨fuel, hf⟩ := hd
  rw [okw_pcs hval] at hf
  exact open_raw hf

end

end Go.Proofs.YteimfdfghopnaaaGreatDoor
