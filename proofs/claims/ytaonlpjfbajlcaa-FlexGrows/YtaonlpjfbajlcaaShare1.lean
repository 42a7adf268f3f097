/- The shares as they are yielded, one by one: what the function that is ranged over does to whatever loop ranges over it. -/
import Derived.Test.YtaonlpjfbajlcaaWeigh
import Derived.RangeFuncBox
import Derived.RangeFuncLeaves
import Derived.RangeFuncWrites
import Derived.RangeFuncCalls
import Derived.Shelf.Abstract
import Derived.OwnWalkIn
import Derived.TacticsInMore
import Derived.LoopNIn
import Derived.LoopIn
namespace Go.Proofs.Ytaonlpjfbajlcaa
open Go.RowKit Go.Shelf

attribute [local go_sem] Oper.semAt_some

/-- What those up to the k-th weight have together. -/
def cum (n all : Int) (zs : List Int) (k : Nat) : Int := n * wsum zs k / all

def shareAt (n all : Int) (zs : List Int) (k : Nat) : Int := cum n all zs (k + 1) - cum n all zs k

def shareUp (n all : Int) (zs : List Int) (k : Nat) : List Int := (List.range k).map (shareAt n all zs)

theorem shareUp_succ (n all : Int) (zs : List Int) (k : Nat) : shareUp n all zs (k + 1) = shareUp n all zs k ++ [shareAt n all zs k] := by simp [shareUp, List.range_succ]

theorem shareUp_len (n all : Int) (zs : List Int) (k : Nat) : (shareUp n all zs k).length = k := by simp [shareUp]

/-- What a round must leave: the blocks below B, and the three boxes of the iterator. -/
def KeepB (B : Nat) (W W' : World) : Prop := ∀ k, (k < B ∨ (B + 2 ≤ k ∧ k < B + 5)) → W'.heap[k]? = W.heap[k]?

theorem KeepB.refl (B : Nat) (W : World) : KeepB B W W := fun _ _ => rfl

theorem KeepB.trans {B : Nat} {A C D : World} (h : KeepB B A C) (k : KeepB B C D) : KeepB B A D := fun i hi => (k i hi).trans (h i hi)

theorem KeepB.of_still {B : Nat} {A C : World} (h : Still A C) : KeepB B A C := fun k _ => (h (k + 1)).block k (by omega)

theorem KeepB.cell {B : Nat} {A C : World} (h : KeepB B A C) {b o : Nat} (hb : b < B ∨ (B + 2 ≤ b ∧ b < B + 5)) : C.cell? ⟨b, o, none⟩ = A.cell? ⟨b, o, none⟩ := World.cell?_of_block (w := A) (h b hb)

theorem still_grown {A C : World} (h : Still A C) : A.grownBy C none := ⟨(h 0).os, (h 0).tape, (h 0).output, (h 0).size, fun k _ _ => (h (k + 1)).block k (by omega)⟩

/-- What is wanted of MulDiv at these weights. -/
def MulSaid (n all : Int) (zs : List Int) : Prop := ∀ k, k ≤ zs.length → ∀ w, Calls Try.prog 39 #[.int .i64 n, .int .i64 (wsum zs k), .int .i64 all] w fun e w' =>
  e = .returned (.tuple #[.int .i64 (cum n all zs k), .int .i64 0]) ∧ Still w w'

set_option maxRecDepth 100000 in
set_option maxHeartbeats 2000000 in
theorem shares1_in (l B b off cap m : Nat) (n all : Int) (zs : List Int) (J Jx : List Int → World → Prop) (hm : 3 ≤ m)
    (hlen : zs.length ≤ 65536) (hsum : ∀ k, k ≤ zs.length → 0 ≤ wsum zs k ∧ wsum zs k ≤ 70368744177664) (hcum : ∀ k, k ≤ zs.length → 0 ≤ cum n all zs k ∧ cum n all zs k ≤ 68719476736) (hmd : MulSaid n all zs) (hb : b < B)
    (hY : ∀ pre x W, J pre W → pre.length < zs.length → YieldAt Fence.wide (m - 1) Try.prog l #[.int .i64 x] W fun e W' =>
      (e = .returned (.bool true) ∧ J (pre ++ [x]) W' ∧ KeepB B W W') ∨ (e = .returned (.bool false) ∧ Jx (pre ++ [x]) W'))
    (W : World) (hJa : AbidesFrom W.heap.size J)
    (hBw : W.cell? ⟨B + 4, 0, none⟩ = some (.slice (some ⟨b, off, none⟩) zs.length cap)) (hBn : W.cell? ⟨B + 2, 0, none⟩ = some (.int .i64 n)) (hBa : W.cell? ⟨B + 3, 0, none⟩ = some (.int .i64 all))
    (hc : ∀ j, j < zs.length → W.cell? ⟨b, off + j, none⟩ = some (.int .i64 (zs.getD j 0))) (h0 : J [] W) :
    CallsIn Fence.wide m Try.prog 88 #[.func (.yield l) #[] #[], .pointer (some ⟨B + 4, 0, none⟩), .pointer (some ⟨B + 2, 0, none⟩), .pointer (some ⟨B + 3, 0, none⟩)] W fun e W' => (∃ v, e = .returned v) ∧
      ((∃ ys, ys = shareUp n all zs zs.length ∧ J ys W') ∨ (∃ pre, (∃ k, k ≤ zs.length ∧ pre = shareUp n all zs k) ∧ Jx pre W')) := by
  obtain ⟨N, hN⟩ : ∃ N, N = zs.length := ⟨_, rfl⟩
  rw [← hN] at hlen hsum hcum hY hBw hc ⊢
  have HN := hide hN
  have HMD := hide hmd
  have HC := hide hc
  have HY := hide hY
  have HSU := hide hsum
  have HCU := hide hcum
  clear hN hmd hc hY hsum hcum
  refine callsIn_of_wp Try.func88 rfl trivial ?_ rfl
  simp only [Try.ntmps88, List.size_toArray, List.length_cons, List.length_nil, Nat.reduceAdd, Nat.reduceSub, Array.replicate_succ, Array.replicate_zero, List.push_toArray, List.append_toArray, List.nil_append, List.cons_append]
  gi_wp2
  gi_loopw [5, 6, 13] (fun s g i wr => ∃ (k : Nat) (s0 g0 : Int), k ≤ N ∧ i = .int .i64 k ∧ s = .int .i64 s0 ∧ g = .int .i64 g0 ∧ Hid (s0 = wsum zs k) ∧ Hid (g0 = cum n all zs k) ∧ J (shareUp n all zs k) wr ∧ KeepB B W wr)
    (fun _ _ i _ => N - (intOf i).toNat)
  case atStart => exact ⟨0, 0, 0, Nat.zero_le _, rfl, rfl, rfl, (wsum_zero zs).symm, by show (0 : Int) = _; simp [cum, wsum_zero], h0, KeepB.refl _ _⟩
  case round =>
    obtain ⟨k, s0, g0, hk, rfl, rfl, rfl, HS, HG, hJs, hnx⟩ := hrel
    by_cases hlt : k < N
    · have hi : (k : Int) < (N : Int) := by omega
      have hkz : k < zs.length := by rw [← HN.out]; exact hlt
      obtain ⟨z, hz⟩ : ∃ z, z = zs.getD k 0 := ⟨_, rfl⟩
      have HZ := hide hz
      have hcx : wr.cell? ⟨b, off + k, none⟩ = some (.int .i64 z) := by rw [hz]; exact (hnx.cell (.inl hb)).trans (HC.out k hlt)
      have hcn : wr.cell? ⟨B + 2, 0, none⟩ = some (.int .i64 n) := (hnx.cell (.inr (by omega))).trans hBn
      have hca : wr.cell? ⟨B + 3, 0, none⟩ = some (.int .i64 all) := (hnx.cell (.inr (by omega))).trans hBa
      have hs0 := HSU.out k hk
      have hs1 := HSU.out (k + 1) (by omega)
      rw [wsum_succ zs k hkz, ← hz, ← HS.out] at hs1
      rw [← HS.out] at hs0
      have hg0 := HCU.out k hk
      rw [← HG.out] at hg0
      have hz0 : -70368744177664 ≤ z := by omega
      have hz1 : z ≤ 70368744177664 := by omega
      obtain ⟨g1, hg1⟩ : ∃ g1, g1 = cum n all zs (k + 1) := ⟨_, rfl⟩
      have hg1b := HCU.out (k + 1) (by omega)
      rw [← hg1] at hg1b
      have hmul : ∀ w, Calls Try.prog 39 #[.int .i64 n, .int .i64 (s0 + z), .int .i64 all] w fun e w' => e = .returned (.tuple #[.int .i64 g1, .int .i64 0]) ∧ Still w w' := by
        intro w
        have := HMD.out (k + 1) (by omega) w
        rw [wsum_succ zs k hkz, ← hz, ← HS.out, ← hg1] at this
        exact this
      have HX : Hid (g1 - g0 = shareAt n all zs k) := by show g1 - g0 = _; rw [hg1, HG.out]; rfl
      have HG1 := hide hg1
      have HM := hide hmul
      have HJ := hide hJs
      have hl := shareUp_len n all zs k
      have HL := hide hl
      have hm2 : 1 ≤ m - 1 := by omega
      clear hz hg1 hmul hJs hl hkz
      gi_wp2_with fail
      refine ⟨trivial, fun _ => by omega, ?_⟩
      refine (callsIn_wide.2 (unhide HM _)).mono ?_
      rintro e w1 ⟨rfl, hst⟩
      have hJ1 : J (shareUp n all zs k) w1 := hJa _ wr w1 none HJ.out (still_grown hst) (fun r e => by cases e)
      obtain ⟨fn, tmps, assign, body, hy, hR⟩ := HY.out _ (g1 - g0) w1 hJ1 (by rw [HL.out]; exact hlt)
      have hk1 : KeepB B W w1 := hnx.trans (KeepB.of_still hst)
      clear hJ1 hnx hcx hcn hca
      gi_wp2
      refine ⟨fun _ => by omega, hR.mono ?_⟩
      rintro e W3 (⟨rfl, hJ3, hk3⟩ | ⟨rfl, hJx3⟩)
      · gi_wp2
        go_roundw
        case rel =>
          refine ⟨k + 1, s0 + z, g1, by omega, by go_num, rfl, rfl, ?_, HG1, ?_, hk1.trans hk3⟩
          · show s0 + z = _
            rw [wsum_succ zs k (by rw [← HN.out]; exact hlt), HS.out, HZ.out]
          · rw [shareUp_succ, ← HX.out]; exact hJ3
        case measure => simp [intOf]; omega
      · gi_wp2
        refine bodyPost_ret (results_none rfl _ _ _) rfl ?_
        exact ⟨⟨_, rfl⟩, .inr ⟨_, ⟨k + 1, by omega, by rw [shareUp_succ, ← HX.out]⟩, hJx3⟩⟩
    · obtain rfl : k = N := by omega
      gi_wp2
      go_end0
      exact ⟨⟨_, rfl⟩, .inl ⟨_, rfl, hJs⟩⟩

end Go.Proofs.Ytaonlpjfbajlcaa
