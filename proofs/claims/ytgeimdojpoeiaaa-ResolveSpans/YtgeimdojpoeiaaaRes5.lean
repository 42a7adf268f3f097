/- Resolve: where something stands; the pure answer, and what stands in memory. -/
import Derived.Test.YtgeimdojpoeiaaaRes4
namespace Go.Proofs.Ytgeimdojpoeiaaa
open Go.RowKit

theorem up_bnd (p : Nat → Bool) (L : Nat) (a : Int) (n : Nat) (hn : 0 < n) : a < upV p L a n ∧ upV p L a n ≤ max a (L - 1) + n := by
  unfold upV
  split
  · have hm := getD_mem (l := upsN p L a) (i := n - 1) (by omega)
    generalize (upsN p L a).getD (n - 1) 0 = i at *
    unfold upsN at hm
    rw [List.mem_filter] at hm
    have h1 := hitsN_lt hm.1
    have h2 : a < (i : Int) := of_decide_eq_true hm.2
    omega
  · omega

theorem down_bnd (p : Nat → Bool) (L : Nat) (a : Int) (n : Nat) (hn : 0 < n) : downV p L a n < a ∧ min a 0 - n ≤ downV p L a n := by
  unfold downV
  split
  · have hm := getD_mem (l := downsN p L a) (i := (downsN p L a).length - n) (by omega)
    generalize (downsN p L a).getD ((downsN p L a).length - n) 0 = i at *
    unfold downsN at hm
    rw [List.mem_filter] at hm
    have h2 : (i : Int) < a := of_decide_eq_true hm.2
    omega
  · omega

theorem along_gt (x : ByteArray) (rs : List (List ByteArray)) (a n : Int) (h0 : 0 < rs.length) (hn : 1 ≤ n) (hn2 : n ≤ 10000) (ha : -30000 ≤ a) (ha2 : a ≤ 30000) : a < alongQ x rs a n := by
  obtain ⟨m, rfl⟩ : ∃ m : Nat, n = (m : Int) + 1 := ⟨(n - 1).toNat, by omega⟩
  rw [alongQ_yes ⟨h0, by omega, by omega, by omega, ha, ha2⟩, along_pos _ _ _ _ m rfl]
  exact (up_bnd _ _ _ _ (by omega)).1

theorem along_lt (x : ByteArray) (rs : List (List ByteArray)) (a n : Int) (h0 : 0 < rs.length) (hn : 1 ≤ n) (hn2 : n ≤ 10000) (ha : -30000 ≤ a) (ha2 : a ≤ 30000) : alongQ x rs a (-n) < a := by
  obtain ⟨m, rfl⟩ : ∃ m : Nat, n = (m : Int) + 1 := ⟨(n - 1).toNat, by omega⟩
  rw [alongQ_yes ⟨h0, by omega, by omega, by omega, ha, ha2⟩, along_neg _ _ _ _ m rfl]
  exact (down_bnd _ _ _ _ (by omega)).1

theorem nth_bnd (x : ByteArray) (rs : List (List ByteArray)) (n : Int) (hL : rs.length ≤ 10001) : -30000 ≤ nthQ x rs n ∧ nthQ x rs n ≤ 30000 := by
  unfold nthQ
  split
  · rename_i hc
    obtain ⟨q1, q2, q3, q4⟩ := (cntB_iff _ _).1 hc
    by_cases hn : 0 < n
    · rw [if_pos hn]
      obtain ⟨m, rfl⟩ : ∃ m : Nat, n = (m : Int) + 1 := ⟨(n - 1).toNat, by omega⟩
      rw [along_pos _ _ _ _ m rfl]
      have := up_bnd (hitB x rs) rs.length (-1) (m + 1) (by omega)
      omega
    · rw [if_neg hn]
      obtain ⟨m, rfl⟩ : ∃ m : Nat, n = -((m : Int) + 1) := ⟨(-n - 1).toNat, by omega⟩
      rw [along_neg _ _ _ _ m rfl]
      have := down_bnd (hitB x rs) rs.length rs.length (m + 1) (by omega)
      omega
  · omega

theorem at_bnd (x : LnD) (rs : List (List ByteArray)) (en : Bool) (hL : rs.length ≤ 10001) : -30000 ≤ atV x rs en ∧ atV x rs en ≤ 30000 := by
  have h1 := nth_bnd x.2 rs 1 hL
  have h2 := nth_bnd x.2 rs x.1.2 hL
  unfold atV
  split
  · split
    · exact h1
    · rename_i hne
      have hm := getD_mem (l := hitsN (hitB (x.2 ++ sfx en) rs) rs.length) (i := 0) (by omega)
      have := hitsN_lt hm
      omega
  · exact h2

theorem farU_gt (x : LnD) (rs : List (List ByteArray)) (a : Int) (hx : x = ((1, 0), ⟨#[]⟩) ∨ (x.1.1 = 4 ∧ 1 ≤ x.1.2 ∧ x.1.2 ≤ 10000)) (h0 : 0 < rs.length) (ha : -30000 ≤ a) (ha2 : a ≤ 30000) : a < farU x rs a := by
  unfold farU
  rcases hx with rfl | ⟨h4, h1, h2⟩
  · rw [if_neg (by decide)]; omega
  · rw [if_pos h4]
    split
    · omega
    · exact along_gt _ _ _ _ h0 h1 h2 ha ha2

theorem farD_lt (x : LnD) (rs : List (List ByteArray)) (a : Int) (hx : x = ((1, 0), ⟨#[]⟩) ∨ (x.1.1 = 4 ∧ 1 ≤ x.1.2 ∧ x.1.2 ≤ 10000)) (h0 : 0 < rs.length) (ha : -30000 ≤ a) (ha2 : a ≤ 30000) : farD x rs a < a := by
  unfold farD
  rcases hx with rfl | ⟨h4, h1, h2⟩
  · rw [if_neg (by decide)]; omega
  · rw [if_pos h4]
    split
    · omega
    · exact along_lt _ _ _ _ h0 h1 h2 ha ha2

def fixS (r : Int × Int) : SpD := (false, r.1, r.2, 0)

/-- Two certain lines, in their order. -/
def twoP (a b : Int) : Int × Int := if a = b then clampP a (a + 1) else clampP (min a b) (max a b)

/-- Where something stands, and the error. -/
def spanV (x y : LnD) (rs : List (List ByteArray)) : SpD × Int :=
  if rs.length = 0 ∨ 10001 < rs.length ∨ goodLn x = false ∨ goodLn y = false then ((false, 0, 0, 0), 2)
  else if cerB x = true then
    if cerB y = true then (fixS (twoP (atV x rs false) (atV y rs true)), 0)
    else (fixS (clampP (atV x rs false) (farU y rs (atV x rs false))), 0)
  else if cerB y = true then (fixS (clampP (farD x rs (atV y rs true)) (atV y rs true)), 0)
  else ((true, 0, 0, manyV x y), 0)

def spanE (r : SpD × Int) : Value := .tuple #[.agg #[.bool r.1.1, .int .i64 r.1.2.1, .int .i64 r.1.2.2.1, .int .i64 r.1.2.2.2], .int .i64 r.2]

theorem many_ok (x y : LnD) (hx : x = ((1, 0), ⟨#[]⟩) ∨ (x.1.1 = 4 ∧ 1 ≤ x.1.2 ∧ x.1.2 ≤ 10000)) (hy : y = ((1, 0), ⟨#[]⟩) ∨ (y.1.1 = 4 ∧ 1 ≤ y.1.2 ∧ y.1.2 ≤ 10000)) : 1 ≤ manyV x y ∧ manyV x y ≤ 10000 := by
  unfold manyV
  rcases hx with rfl | ⟨h4, h1, h2⟩
  · rw [if_neg (by decide)]
    rcases hy with rfl | ⟨h4, h1, h2⟩
    · rw [if_neg (by decide)]; omega
    · rw [if_pos h4]; split <;> omega
  · rw [if_pos h4]; split <;> omega

theorem fixS_good (r : Int × Int) (h : -10000 ≤ r.1 ∧ r.1 < r.2 ∧ r.2 ≤ 10000) : goodSp (fixS r) = true := by
  obtain ⟨h1, h2, h3⟩ := h
  unfold goodSp fixS
  simp [h1, h2, h3]

/-- What is told may be. -/
theorem span_good (x y : LnD) (rs : List (List ByteArray)) (h : (spanV x y rs).2 = 0) : goodSp (spanV x y rs).1 = true := by
  unfold spanV at *
  split
  · rename_i hb
    rw [if_pos hb] at h
    exact absurd h (by decide)
  · rename_i hb
    have hgx : goodLn x = true := by
      cases hg : goodLn x
      · exact absurd (.inr (.inr (.inl hg))) hb
      · rfl
    have hgy : goodLn y = true := by
      cases hg : goodLn y
      · exact absurd (.inr (.inr (.inr hg))) hb
      · rfl
    cases hx : cerB x
    · rw [if_neg (by simp)]
      cases hy : cerB y
      · rw [if_neg (by simp)]
        have := many_ok x y (loose_of hgx hx) (loose_of hgy hy)
        unfold goodSp
        simp [this.1, this.2]
      · rw [if_pos rfl]
        exact fixS_good _ (clampP_ok _ _)
    · rw [if_pos rfl]
      cases hy : cerB y
      · rw [if_neg (by simp)]
        exact fixS_good _ (clampP_ok _ _)
      · rw [if_pos rfl]
        refine fixS_good _ ?_
        unfold twoP
        split
        · exact clampP_ok _ _
        · exact clampP_ok _ _

structure SqS (w W : World) (v : Value) (rs : List (List ByteArray)) (x y : LnD) : Prop where
  r : Rws W v rs
  lx : LnAt W w.heap.size x
  ly : LnAt W (w.heap.size + 1) y
  sp : SpAt W (w.heap.size + 1 + 1) (false, 0, 0, 0)
  bel : Below w.heap.size w W

theorem SqS.next {w W W' : World} {v : Value} {rs : List (List ByteArray)} {x y : LnD} (h : SqS w W v rs x y) (hb : Below W.heap.size W W') : SqS w W' v rs x y :=
  ⟨h.r.below hb, h.lx.below hb h.lx.lt, h.ly.below hb h.ly.lt, h.sp.next hb, h.bel.trans (hb.mono h.bel.size)⟩

theorem SqS.start {w : World} {v : Value} {rs : List (List ByteArray)} (h : Rws w v rs) (x y : LnD) : SqS w (((w.alloc (.cells #[.int .i64 x.1.1, .int .i64 x.1.2, .string x.2] 24)).alloc (.cells #[.int .i64 y.1.1, .int .i64 y.1.2, .string y.2] 24)).alloc (.cells #[.bool false, .int .i64 0, .int .i64 0, .int .i64 0] 28)) v rs x y := by
  have l0 := LnAt.new w x.1.1 x.1.2 x.2
  have b1 := (Below.refl _ w).alloc (Nat.le_refl _) (.cells #[.int .i64 x.1.1, .int .i64 x.1.2, .string x.2] 24)
  have s1 : (w.alloc (.cells #[.int .i64 x.1.1, .int .i64 x.1.2, .string x.2] 24)).heap.size = w.heap.size + 1 := World.size_alloc _ _
  generalize w.alloc (.cells #[.int .i64 x.1.1, .int .i64 x.1.2, .string x.2] 24) = w1 at *
  have l1 := LnAt.new w1 y.1.1 y.1.2 y.2
  have b2 := (Below.refl _ w1).alloc (Nat.le_refl _) (.cells #[.int .i64 y.1.1, .int .i64 y.1.2, .string y.2] 24)
  have s2 : (w1.alloc (.cells #[.int .i64 y.1.1, .int .i64 y.1.2, .string y.2] 24)).heap.size = w1.heap.size + 1 := World.size_alloc _ _
  generalize w1.alloc (.cells #[.int .i64 y.1.1, .int .i64 y.1.2, .string y.2] 24) = w2 at *
  have l2 := SpAt.new w2 (false, 0, 0, 0)
  have b3 := (Below.refl _ w2).alloc (Nat.le_refl _) (.cells #[.bool false, .int .i64 0, .int .i64 0, .int .i64 0] 28)
  have r1 := h.below b1
  have r2 := r1.below b2
  have r3 := r2.below b3
  have b12 := b1.trans (b2.mono (by omega))
  have b123 := b12.trans (b3.mono (by omega))
  have k0 := (l0.below b2 (by omega)).below b3 (by omega)
  rw [s2, s1] at l2
  rw [s1] at l1
  exact ⟨r3, k0, l1.below b3 (by omega), l2, b123⟩

theorem below_four {B b : Nat} {w w' : World} (h : Below B w w') (hb : B ≤ b) (x y z u : Value) : Below B w ((((w'.setCell ⟨b, 0, none⟩ x).setCell ⟨b, 1, none⟩ y).setCell ⟨b, 2, none⟩ z).setCell ⟨b, 3, none⟩ u) :=
  (((h.setCell (p := ⟨b, 0, none⟩) hb x).setCell (p := ⟨b, 1, none⟩) hb y).setCell (p := ⟨b, 2, none⟩) hb z).setCell (p := ⟨b, 3, none⟩) hb u

end Go.Proofs.Ytgeimdojpoeiaaa
