/- Bytes that came in, appended to bytes of the call's own. -/
import Derived.Test.YtcgmnmfglhbcgabBts
import Derived.Test.YtcgmnmfglhbcgabTok19
import Derived.Laws.AppendOwnNone
namespace Go.Proofs.Ytcgmnmfglhbcgab
open Go.RowKit

theorem sc_get (s : ByteArray) (j : Nat) : (Lib.strCells s)[j]? = if j < s.size then some (.int .u8 ((btT s j).toNat : Int)) else none := by
  unfold Lib.strCells
  by_cases h : j < s.size
  · rw [if_pos h]
    have hl : j < s.data.toList.length := by simpa using h
    simp [btT, List.getD, h]
  · rw [if_neg h]
    simp; omega
/-- The cells that a slice of bytes leads to. -/
def SrcAt (w : World) (a : Option Addr) (cap : Nat) (s : ByteArray) : Prop :=
  (a = none ∧ s.size = 0 ∧ cap = 0) ∨ ∃ x, a = some x ∧ ∀ j u, (Lib.strCells s)[j]? = some u → w.cell? (x.add j) = some u
theorem SrcAt.below {w w' : World} {a : Option Addr} {cap : Nat} {s : ByteArray} (h : SrcAt w a cap s) (hb : Below w.heap.size w w') : SrcAt w' a cap s := by
  rcases h with h | ⟨x, hx, hc⟩
  · exact .inl h
  · exact .inr ⟨x, hx, fun j u hj => by
      have := hc j u hj
      rw [← this]
      exact hb.cell (World.block_lt_of_cell? _ _ this)⟩
theorem row_src {w : World} {a : Option Addr} {len cap : Nat} {zs : List Int} {s : ByteArray} (h : IsRow .u8 w a len cap zs) (hB : BtsAt w a len cap s) : SrcAt w a cap s := by
  rcases h with ⟨rfl, rfl, rfl, rfl⟩ | ⟨x, rfl, hl, hm, hz, hcell, hwz⟩
  · exact .inl ⟨rfl, hB.size, rfl⟩
  · refine .inr ⟨x, rfl, fun j u hj => ?_⟩
    rw [sc_get] at hj
    split at hj
    · rename_i hjs
      have hs := hB.size
      simp only [Option.some.injEq] at hj
      subst hj
      rw [hcell j (by omega)]
      congr 2
      obtain ⟨b, off, spot⟩ := x
      have hc := hcell 0 (by omega)
      have hspot : spot = none := by simpa [Addr.add] using World.cell?_spot hc
      subst hspot
      have had : ∀ i, (⟨b, off, none⟩ : Addr).add i = ⟨b, off + i, none⟩ := fun i => by unfold Addr.add; split <;> simp_all
      have hcv := run_convert_bytes_arg (P := Try.prog) w 22 5 Try.underlying22 Try.underlying5 b off len cap (zs.take len) (by simp; omega) (fun i hi => by
        have := hcell i (by omega)
        rw [had] at this
        rw [this]
        congr 2
        simp [List.getD, hi]) 9 Try.underlying9
      have hcv2 := hB.conv w (Below.refl _ _)
      rw [hs, hcv] at hcv2
      simp only [Result.ok.injEq, Value.string.injEq] at hcv2
      have hst := hcv2.1
      have hb : btT s j = UInt8.ofNat (zs.getD j 0).toNat := by
        rw [← hst]
        unfold btT
        rw [strOfNums_data]
        simp [List.getD, show j < len by omega, show j < zs.length by omega]
      rw [hb]
      have hmem : zs.getD j 0 ∈ zs := by
        rw [List.getD, List.getElem?_eq_getElem (show j < zs.length by omega)]
        exact List.getElem_mem _
      have hw := bounds_u8 (hwz _ hmem)
      rw [UInt8.toNat_ofNat']
      omega
    · cases hj
theorem u8_info : (Try.prog.info? 5).map (fun i => (i.zero, i.size, i.bytes)) = some (some (.int .u8 0), 1, 1) := by kernel_rfl
/-- Bytes that came in are appended. -/
theorem wpList_app_arg {w : World} {ops : Array Oper} {rest : List Oper} {o : Oper} {a : Act} {Q : Exit → Act → World → Prop} (hgd : o.guard = none) (sl x : Operand)
    (ho : o.op = .call { callee := .builtin .append, args := #[sl, x], argTypes := #[ 22, 22 ] })
    (base : Nat) (v : Value) (n : Nat) (xs : List Value) (hs : a.eval sl = v) (hown : w.ownsRow base 5 1 v n xs) (ao : Option Addr) (cap : Nat) (s : ByteArray) (hsrc : SrcAt w ao cap s) (hx : a.eval x = .slice ao s.size cap)
    (hb : n + s.size ≤ 100000) (hbase : base ≤ w.heap.size)
    (h : ∀ v' w', w'.ownsRow base 5 1 v' (n + s.size) (xs ++ Lib.strCells s) → w.grownBy w' v.ownBlock → wpList Try.prog ops Q rest (a.put o.dst v') w') : wpList Try.prog ops Q (o :: rest) a w := by
  obtain ⟨i0, hi, hz0, hz1, hz2⟩ := info_parts u8_info
  rcases hsrc with ⟨rfl, h0, rfl⟩ | ⟨y, rfl, hc⟩
  · rw [h0] at hx h
    refine wpList_append_own_none hgd sl x 22 ho base 5 i0 1 Try.underlying22 hi v n xs hs hown hx (h v w ?_ ⟨rfl, rfl, rfl, Nat.le_refl _, fun _ _ _ => rfl⟩)
    have : Lib.strCells s = [] := by apply List.length_eq_zero_iff.1; rw [Lib.strCells_length]; exact h0
    rw [this, List.append_nil, Nat.add_zero]; exact hown
  · exact wpList_append_own w hgd sl x 22 ho base 5 i0 _ 1 1 Try.underlying22 hi hz0 hz1 hz2 rfl (by decide) v n xs hs hown y s.size cap (Lib.strCells s) hx (by rw [Lib.strCells_length]; omega) hc (by
      intro u hu
      obtain ⟨j, hj⟩ := List.getElem?_of_mem hu
      rw [sc_get] at hj
      split at hj
      · simp only [Option.some.injEq] at hj; subst hj; rfl
      · cases hj) (by unfold maxLen; omega) (by omega) hbase (fun v' w' h1 h2 _ => h v' w' h1 h2)
/-- Bytes of the call's own as a text. -/
theorem own_conv {w : World} {base n : Nat} {v : Value} {T : ByteArray} (hown : w.ownsRow base 5 1 v n (Lib.strCells T)) (hn : n = T.size) (hp : 0 < n) : ∃ ao cap, v = .slice ao T.size cap ∧ Sem.run Try.prog (convert 22 9 (.slice ao T.size cap)) w = .ok (.string T) w := by
  subst hn
  obtain ⟨h1, h2⟩ := hown
  rcases h2 with ⟨_, h0⟩ | ⟨g, cap, cur, hv, hg, hh, hcap, _, hsz, htk⟩
  · omega
  · refine ⟨some ⟨g, 0, none⟩, cap, hv, ?_⟩
    have h := run_convert_bytes_arg (P := Try.prog) w 22 5 Try.underlying22 Try.underlying5 g 0 T.size cap (T.data.toList.map fun c => (c.toNat : Int)) (by simp) (fun i hi => by
      rw [Nat.zero_add, Lib.cell_of_heap hh]
      have hx := sc_get T i
      rw [if_pos hi, ← htk, List.getElem?_take, if_pos (by omega)] at hx
      rw [← Array.getElem?_toList, hx]
      simp [btT, List.getD, hi]) 9 Try.underlying9
    rw [h]
    congr 2
    apply WideShapes.bytes_inj
    rw [strOfNums_data, List.map_map]
    have : (fun n : Int => UInt8.ofNat n.toNat) ∘ (fun c : UInt8 => (c.toNat : Int)) = id := by funext c; simp
    rw [this, List.map_id]
theorem sc_app (l : List Value) (a b : ByteArray) (h : l = Lib.strCells a) : l ++ Lib.strCells b = Lib.strCells (a ++ b) := by
  subst h
  simp [Lib.strCells, ByteArray.data_append]
theorem tokR_any {w w' : World} {x : Except (Nat × Int) (List (Wd × Nat))} {en : Ending} (h : TokR w x en w') : ∃ v i e, en = .returned (.tuple #[v, .int .i64 i, .int .i64 e]) := by
  cases x with
  | error y => obtain ⟨p, e⟩ := y; exact ⟨_, _, _, h⟩
  | ok l => obtain ⟨v, h, _⟩ := h; exact ⟨_, _, _, h⟩

end Go.Proofs.Ytcgmnmfglhbcgab
