/- A string, walked. -/
import Derived.Test.YtcgmnmfglhbcgabTok12
namespace Go.Proofs.Ytcgmnmfglhbcgab
open Go.RowKit

set_option maxRecDepth 100000 in
set_option maxHeartbeats 4000000 in
theorem quot_any (R : Nat) (s : ByteArray) (k f : Nat) (w : World) (h : RdAt R s k f w) (hk : k < s.size) (hs : s.size ≤ 300000) :
    Calls Try.prog 43 #[.pointer (some ⟨R, 0, none⟩)] w fun en w' => Only R w w' ∧ WordR R s f (quotV s k) en w' := by
  have hRl := h.lt
  have hki : (k : Int) < (s.size : Int) := by omega
  have hbx := Boxed.new w 60 (.pointer (some ⟨R, 0, none⟩))
  have hb0 : Below w.heap.size w (w.alloc (.cells #[.pointer (some ⟨R, 0, none⟩)] 60)) := (Below.refl _ w).alloc (Nat.le_refl _) _
  have hz0 := TkAt.new (w.alloc (.cells #[.pointer (some ⟨R, 0, none⟩)] 60)) 0 0 ⟨#[]⟩ ⟨#[]⟩
  have hb1 := hb0.alloc (Nat.le_trans (Nat.le_refl _) hb0.size) (.cells #[.int .i64 0, .int .i64 0, .string ⟨#[]⟩, .string ⟨#[]⟩] 37)
  have hbx1 : Boxed ((w.alloc (.cells #[.pointer (some ⟨R, 0, none⟩)] 60)).alloc (.cells #[.int .i64 0, .int .i64 0, .string ⟨#[]⟩, .string ⟨#[]⟩] 37)) w.heap.size 60 (.pointer (some ⟨R, 0, none⟩)) := (Below.heap_alloc _ _ _ hbx.lt).trans hbx
  have hR1 := h.below hb1
  have hsz : (w.alloc (.cells #[.pointer (some ⟨R, 0, none⟩)] 60)).heap.size = w.heap.size + 1 := by simp
  rw [hsz] at hz0
  have c0 := hR1.c0
  have c1 := hR1.c1
  have z1 := hR1.z 1
  have cx := hbx1.cell
  have hl1 := hR1.lt
  have hlx := hbx1.lt
  have hlz := hz0.lt
  have HR1 := hide hR1
  have HB1 := hide hb1
  have HX1 := hide hbx1
  have HZ0 := hide hz0
  have hb : btT s k = s[k] := btT_at hk
  have HBT := hide hb
  clear h hbx hb0 hsz hR1 hb1 hbx1 hz0 hb
  go_enter Try.func43, Try.ntmps43
  go_wp2_with fail
  generalize hw1 : (w.alloc (.cells #[.pointer (some ⟨R, 0, none⟩)] 60)).alloc (.cells #[.int .i64 0, .int .i64 0, .string ⟨#[]⟩, .string ⟨#[]⟩] 37) = w1 at *
  have hs1 : w1.heap.size = w.heap.size + 2 := by rw [← hw1]; simp
  have d0 : ∀ o, (w1.alloc o).cell? ⟨R, 0, none⟩ = some (.string s) := fun o => (World.cell?_of_block (w := w1) (Below.heap_alloc w1 o R hl1)).trans c0
  have d1 : ∀ o, (w1.alloc o).cell? ⟨R, 1, none⟩ = some (.int .i64 (k : Int)) := fun o => (World.cell?_of_block (w := w1) (Below.heap_alloc w1 o R hl1)).trans c1
  have dx : ∀ o, (w1.alloc o).cell? ⟨w.heap.size, 0, none⟩ = some (.pointer (some ⟨R, 0, none⟩)) := fun o => (World.cell?_of_block (w := w1) (Below.heap_alloc w1 o w.heap.size hlx)).trans cx
  clear hw1
  go_region
  have f1 : ∀ o, (w1.alloc o).frozen? ⟨R, 1, none⟩ = false := fun o => (World.frozen?_of_block (w := w1) (Below.heap_alloc w1 o R hl1)).trans z1
  have hne : ¬ w.heap.size = R := by omega
  have hne' : ¬ R = w.heap.size := by omega
  go_wp2_with fail
  have hbk : ∀ i o v, i < w1.heap.size → i ≠ R → (((w1.alloc o).setCell ⟨R, 1, none⟩ v).drew).heap[i]? = w1.heap[i]? := fun i o v hi hr => (Below.heap_setCell _ _ _ _ hr).trans (Below.heap_alloc w1 o i hi)
  have q1 : RdAt R s (k + 1) f (((w1.alloc (.cells #[.int .u8 (s[k].toNat : Int)] 5)).setCell ⟨R, 1, none⟩ (.int .i64 ((k : Int) + 1))).drew) :=
    RdAt.set1' (w := w1.alloc (.cells #[.int .u8 (s[k].toNat : Int)] 5)) ((Below.heap_alloc _ _ R hl1).trans HR1.out) _ _ (by omega)
  have q2 : Boxed (((w1.alloc (.cells #[.int .u8 (s[k].toNat : Int)] 5)).setCell ⟨R, 1, none⟩ (.int .i64 ((k : Int) + 1))).drew) w.heap.size 60 (.pointer (some ⟨R, 0, none⟩)) :=
    (hbk _ _ _ hlx hne).trans HX1.out
  have q3 : Boxed (((w1.alloc (.cells #[.int .u8 (s[k].toNat : Int)] 5)).setCell ⟨R, 1, none⟩ (.int .i64 ((k : Int) + 1))).drew) (w.heap.size + 2) 5 (.int .u8 ((btT s k).toNat : Int)) := by
    rw [HBT.out, ← hs1]
    exact (Below.heap_setCell _ _ _ _ (by show w1.heap.size ≠ R; omega)).trans (World.alloc_heap_new w1 _)
  have q4 : TkAt (w.heap.size + 1) 0 0 ⟨#[]⟩ ⟨#[]⟩ (((w1.alloc (.cells #[.int .u8 (s[k].toNat : Int)] 5)).setCell ⟨R, 1, none⟩ (.int .i64 ((k : Int) + 1))).drew) :=
    (hbk _ _ _ hlz (by omega)).trans HZ0.out
  have q5 : Only R w (((w1.alloc (.cells #[.int .u8 (s[k].toNat : Int)] 5)).setCell ⟨R, 1, none⟩ (.int .i64 ((k : Int) + 1))).drew) :=
    (((Only.of (R := R) HB1.out).thenBelow ((Below.refl _ _).alloc (Nat.le_refl _) _)).setCell 1 _).then' (Below.refl _ _).drew
  generalize ((w1.alloc (.cells #[.int .u8 (s[k].toNat : Int)] 5)).setCell ⟨R, 1, none⟩ (.int .i64 ((k : Int) + 1))).drew = w2 at *
  refine (meaning_any R s (k + 1) f 8192 55 #[.pointer (some ⟨w.heap.size, 0, none⟩), .pointer (some ⟨w.heap.size + 2, 0, none⟩)] (quP s (btT s k)) w2 q1 (by omega) hs
    (fun k m n _ hp => (qu_le s _ k hp).1) (fun k m n hp => qu_size s _ k hp)
    (enters_of Try.func55 (by kernel_rfl) rfl)
    (fun k' w' hk' hr ho => quc_any R w.heap.size (w.heap.size + 2) s (btT s k) k' f w' hr ((ho.cell q2.lt hne).trans q2.cell) ((ho.cell q3.lt (by show w.heap.size + 2 ≠ R; omega)).trans q3.cell) hk' hs)).mono ?_
  rintro e w3 ⟨ho3, hm⟩
  have hO3 := q5.trans ho3
  have hz3 := q4.only ho3 (by omega)
  have hx3 : w3.cell? ⟨w.heap.size, 0, none⟩ = some (.pointer (some ⟨R, 0, none⟩)) := (ho3.cell q2.lt hne).trans q2.cell
  clear ho3 q1 q2 q3 q4 q5 hbk c0 c1 z1 cx d0 d1 dx f1 HR1 HB1 HX1 HZ0 hlx hlz hl1 hs1 HBT
  cases hv : meanV s 8192 (quP s (btT s k)) (k + 1) with
  | error er =>
    rw [hv] at hm
    obtain rfl : e = badV f er := hm
    exact ⟨rfl, hO3, by unfold quotV; rw [hv]; rfl⟩
  | ok tk =>
    obtain ⟨t, k'⟩ := tk
    rw [hv] at hm
    obtain ⟨rfl, hR3⟩ : e = .returned (.string t) ∧ RdAt R s k' f w3 := hm
    have hk' := (meanV_le (fun k m n _ hp => (qu_le s _ k hp).1) (by omega) hv).2
    have c1 := hR3.c1
    have z1 := hR3.z 1
    have a0 := hz3.c0
    have a1 := hz3.c1
    have a2 := hz3.c2
    have a3 := hz3.c3
    have az := hz3.z
    have HV := hide hv
    have HR3 := hide hR3
    have HO3 := hide hO3
    clear hv hR3 hO3 hz3
    have hne2 : ¬ w.heap.size + 1 = R := by omega
    have hne2' : ¬ R = w.heap.size + 1 := by omega
    go_wp2_with fail
    refine bodyPost_ret (v := wdV ⟨6, t, noB⟩) (by simp [results, Try.results43, go_sem, a0, a1, a2, a3, wdV, noB]) rfl ⟨(((((HO3.out).setCell 1 _).setNew (by omega) 0 _).setNew (by omega) 1 _).setNew (by omega) 2 _).setNew (by omega) 3 _, ?_⟩
    have hn : quotV s k = .ok (⟨6, t, noB⟩, k' + 1) := by unfold quotV; rw [HV.out]
    rw [hn]
    exact ⟨rfl, (((((HR3.out).set1' _ (k' + 1) (by omega)).setOther (by omega) 0 _).setOther (by omega) 1 _).setOther (by omega) 2 _).setOther (by omega) 3 _⟩

end Go.Proofs.Ytcgmnmfglhbcgab
