/- Words that begin with a number, walked. -/
import Derived.Test.YtcgmnmfglhbcgabTok9
import Derived.BigRegion
namespace Go.Proofs.Ytcgmnmfglhbcgab
open Go.RowKit

theorem sl_num {s : ByteArray} {k n : Nat} (h : k + n ≤ s.size) (w : World) : Sem.run Try.prog (Instr.slice 9 (.string s) (some (.int .i64 (k : Int))) (some (.int .i64 ((k : Int) + (n : Int)))) none) w = .ok (.string (s.extract k (k + n))) w := by
  rw [run_slice_string w 9 s .i64 .i64 (k : Int) ((k : Int) + (n : Int)) Try.underlying9 (by omega) (by omega) (by omega)]
  congr 2

set_option maxRecDepth 100000 in
set_option maxHeartbeats 4000000 in
theorem tnum_any (R : Nat) (s : ByteArray) (k n f : Nat) (w : World) (h : RdAt R s k f w) (hk : k + n ≤ s.size) (hs : s.size ≤ 300000) :
    Calls Try.prog 40 #[.pointer (some ⟨R, 0, none⟩), .int .i64 (n : Int)] w fun en w' => Only R w w' ∧ WordR R s f (numV s k n) en w' := by
  have hRl := h.lt
  have hb0 : Below w.heap.size w (w.alloc (.cells #[.int .i64 0, .int .i64 0, .string ⟨#[]⟩, .string ⟨#[]⟩] 37)) := (Below.refl _ w).alloc (Nat.le_refl _) _
  have hz0 := TkAt.new w 0 0 ⟨#[]⟩ ⟨#[]⟩
  have hR0 := h.below hb0
  have c0 := hR0.c0
  have c1 := hR0.c1
  have z1 := hR0.z 1
  have hsl := fun w => sl_num hk w
  obtain ⟨N, hN⟩ : ∃ N, N = s.extract k (k + n) := ⟨_, rfl⟩
  simp only [← hN] at hsl
  have HN := hide hN
  clear hN
  have HR0 := hide hR0
  clear hR0 h
  go_enter Try.func40, Try.ntmps40
  go_wp2_with fail
  generalize hw0 : w.alloc (.cells #[.int .i64 0, .int .i64 0, .string ⟨#[]⟩, .string ⟨#[]⟩] 37) = w0 at *
  have hl0 : R < w0.heap.size := by rw [← hw0]; simp; omega
  have d0 : ∀ o, (w0.alloc o).cell? ⟨R, 0, none⟩ = some (.string s) := fun o => (World.cell?_of_block (w := w0) (Below.heap_alloc w0 o R hl0)).trans c0
  have d1 : ∀ o, (w0.alloc o).cell? ⟨R, 1, none⟩ = some (.int .i64 (k : Int)) := fun o => (World.cell?_of_block (w := w0) (Below.heap_alloc w0 o R hl0)).trans c1
  have hwr : IntKind.i64.wrap ((k : Int) + (n : Int)) = (k : Int) + (n : Int) := by rw [IntKind.wrap_i64]; omega
  go_region
  have f1 : ∀ o, (w0.alloc o).frozen? ⟨R, 1, none⟩ = false := fun o => (World.frozen?_of_block (w := w0) (Below.heap_alloc w0 o R hl0)).trans z1
  go_wp2_with fail
  have q1 : RdAt R s (k + n) f (((w0.setCell ⟨R, 1, none⟩ (.int .i64 ((k : Int) + (n : Int)))).alloc (.cells #[.int .i64 3, .int .i64 0, .string ⟨#[]⟩, .string N] 37)).drew) :=
    (Below.heap_alloc _ _ R (by simp [World.setCell]; omega)).trans ((HR0.out).set1' _ _ (by omega))
  have q2 : TkAt w0.heap.size 3 0 ⟨#[]⟩ N (((w0.setCell ⟨R, 1, none⟩ (.int .i64 ((k : Int) + (n : Int)))).alloc (.cells #[.int .i64 3, .int .i64 0, .string ⟨#[]⟩, .string N] 37)).drew) := by
    have := TkAt.new (w0.setCell ⟨R, 1, none⟩ (.int .i64 ((k : Int) + (n : Int)))) 3 0 ⟨#[]⟩ N
    simp only [World.setCell, Array.size_modify] at this ⊢
    exact this
  have q3 : TkAt w.heap.size 0 0 ⟨#[]⟩ ⟨#[]⟩ (((w0.setCell ⟨R, 1, none⟩ (.int .i64 ((k : Int) + (n : Int)))).alloc (.cells #[.int .i64 3, .int .i64 0, .string ⟨#[]⟩, .string N] 37)).drew) :=
    (Below.heap_alloc _ _ w.heap.size (by have := hz0.lt; simp [World.setCell]; omega)).trans ((Below.heap_setCell _ _ _ _ (by show w.heap.size ≠ R; omega)).trans hz0)
  have q4 : Only R w (((w0.setCell ⟨R, 1, none⟩ (.int .i64 ((k : Int) + (n : Int)))).alloc (.cells #[.int .i64 3, .int .i64 0, .string ⟨#[]⟩, .string N] 37)).drew) :=
    (((Only.of (R := R) hb0).setCell 1 _).thenBelow ((Below.refl _ _).alloc (Nat.le_refl _) _)).then' (Below.refl _ _).drew
  have hs0 := hz0.lt
  generalize ((w0.setCell ⟨R, 1, none⟩ (.int .i64 ((k : Int) + (n : Int)))).alloc (.cells #[.int .i64 3, .int .i64 0, .string ⟨#[]⟩, .string N] 37)).drew = w1 at *
  refine (take_of R s (k + n) f 37 37 rfl _ q1 hk hs).mono ?_
  rintro e w2 ⟨rfl, hR2, ho2⟩
  have hO2 := q4.trans ho2
  have ht2 := q2.only ho2 (by omega)
  have hz2 := q3.only ho2 (by omega)
  have HR2 := hide hR2
  have HO2 := hide hO2
  have HT2 := hide ht2
  have HZ2 := hide hz2
  clear q1 q2 q3 q4 hR2 hO2 ho2 ht2 hz2 HR0 hb0 hz0 c0 c1 z1 d0 d1 f1 hsl hwr hw0
  generalize w0.heap.size = b3 at *
  have hne : ¬ b3 = w.heap.size := by omega
  have hne' : ¬ w.heap.size = b3 := by omega
  have hneR : ¬ b3 = R := by omega
  cases hat : isAt s (k + n) 37
  · rw [hat] at HR2
    have HRa : Hid (RdAt R s (k + n) f w2) := HR2
    have c0 := (HRa.out).c0
    have c1 := (HRa.out).c1
    have hkn : ((k + n : Nat) : Int) = (k : Int) + (n : Int) := by omega
    have cb : ∀ w, Calls Try.prog 41 #[.string s, .int .i64 ((k : Int) + (n : Int))] w fun e w' => e = .returned (.bool (begV s (k + n))) ∧ w' = w := fun w => by rw [← hkn]; exact begins_any s (k + n) w hk (by omega)
    rw [hkn] at c1
    cases hbg : begV s (k + n)
    · rw [hbg] at cb
      have a0 := (HZ2.out).c0
      have a1 := (HZ2.out).c1
      have a2 := (HZ2.out).c2
      have a3 := (HZ2.out).c3
      have az := (HZ2.out).z
      have b0 := (HT2.out).c0
      have b1 := (HT2.out).c1
      have b2 := (HT2.out).c2
      have b3' := (HT2.out).c3
      clear hkn HR2
      go_wp2_with fail
      go_quiet ((go_at_call 41; exact (cb _).mono fun _ _ h => ⟨h.1, _, h.2⟩))
      go_wp2_with fail
      refine bodyPost_ret (v := wdV ⟨3, noB, N⟩) (by simp [results, Try.results40, go_sem, a0, a1, a2, a3, wdV, noB]) rfl ⟨(((((HO2.out).drewN _).setNew (Nat.le_refl _) 0 _).setNew (Nat.le_refl _) 1 _).setNew (Nat.le_refl _) 2 _).setNew (Nat.le_refl _) 3 _, ?_⟩
      have hn : numV s k n = .ok (⟨3, noB, N⟩, k + n) := by unfold numV; rw [hat, hbg, if_neg (by simp), if_neg (by simp), HN.out]
      rw [hn]
      exact ⟨rfl, (((((HRa.out).drewN _).setOther (by omega) 0 _).setOther (by omega) 1 _).setOther (by omega) 2 _).setOther (by omega) 3 _⟩
    · rw [hbg] at cb
      clear hkn HR2
      go_wp2_with fail
      go_quiet ((go_at_call 41; exact (cb _).mono fun _ _ h => ⟨h.1, _, h.2⟩))
      go_wp2_with fail
      refine (ident_any R s (k + n) f _ ((HRa.out).drewN _) hk hs).mono ?_
      rintro e w3 ⟨ho3, hm⟩
      have hO3 := ((HO2.out).drewN _).trans ho3
      have hz3 := (show TkAt _ _ _ _ _ (w2.drewN nq) from HZ2.out).only ho3 (by omega)
      have ht3 := (show TkAt _ _ _ _ _ (w2.drewN nq) from HT2.out).only ho3 hneR
      clear ho3 HO2 HZ2 HT2 HRa c0 c1 cb
      cases hv : identV s (k + n) with
      | error er =>
        rw [hv] at hm
        obtain rfl : e = badV f er := hm
        exact ⟨rfl, hO3, by unfold numV; rw [hat, hbg, if_neg (by simp), if_pos rfl, hv]; rfl⟩
      | ok tk =>
        obtain ⟨t, k'⟩ := tk
        rw [hv] at hm
        obtain ⟨rfl, hR3⟩ : e = .returned (.string t) ∧ RdAt R s k' f w3 := hm
        have HV := hide hv
        have HR3 := hide hR3
        have HO3 := hide hO3
        have a0 := hz3.c0
        have a1 := hz3.c1
        have a2 := hz3.c2
        have a3 := hz3.c3
        have az := hz3.z
        have b0 := ht3.c0
        have b1 := ht3.c1
        have b2 := ht3.c2
        have b3' := ht3.c3
        have bz := ht3.z
        clear hv hR3 hO3 hz3 ht3
        go_wp2_with fail
        refine bodyPost_ret (v := wdV ⟨5, t, N⟩) (by simp [results, Try.results40, go_sem, a0, a1, a2, a3, wdV]) rfl ⟨((((((HO3.out).setNew (by omega) 0 _).setNew (by omega) 2 _).setNew (Nat.le_refl _) 0 _).setNew (Nat.le_refl _) 1 _).setNew (Nat.le_refl _) 2 _).setNew (Nat.le_refl _) 3 _, ?_⟩
        have hn : numV s k n = .ok (⟨5, t, N⟩, k') := by unfold numV; rw [hat, hbg, if_neg (by simp), if_pos rfl, HV.out, HN.out]
        rw [hn]
        exact ⟨rfl, ((((((HR3.out).setOther (by omega) 0 _).setOther (by omega) 2 _).setOther (by omega) 0 _).setOther (by omega) 1 _).setOther (by omega) 2 _).setOther (by omega) 3 _⟩
  · rw [hat] at HR2
    have a0 := (HZ2.out).c0
    have a1 := (HZ2.out).c1
    have a2 := (HZ2.out).c2
    have a3 := (HZ2.out).c3
    have az := (HZ2.out).z
    have b0 := (HT2.out).c0
    have b1 := (HT2.out).c1
    have b2 := (HT2.out).c2
    have b3' := (HT2.out).c3
    have bz := (HT2.out).z
    go_wp2_with fail
    refine bodyPost_ret (v := wdV ⟨4, noB, N⟩) (by simp [results, Try.results40, go_sem, a0, a1, a2, a3, wdV, noB]) rfl ⟨(((((HO2.out).setNew (by omega) 0 _).setNew (Nat.le_refl _) 0 _).setNew (Nat.le_refl _) 1 _).setNew (Nat.le_refl _) 2 _).setNew (Nat.le_refl _) 3 _, ?_⟩
    have hn : numV s k n = .ok (⟨4, noB, N⟩, k + n + 1) := by unfold numV; rw [hat, if_pos rfl, HN.out]
    rw [hn]
    exact ⟨rfl, (((((HR2.out).setOther (by omega) 0 _).setOther (by omega) 0 _).setOther (by omega) 1 _).setOther (by omega) 2 _).setOther (by omega) 3 _⟩

end Go.Proofs.Ytcgmnmfglhbcgab
