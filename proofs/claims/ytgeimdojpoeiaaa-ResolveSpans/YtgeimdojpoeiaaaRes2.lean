/- Resolve: a line that is certain, how far another one reaches, how many tracks; the program's side. -/
import Derived.Test.YtgeimdojpoeiaaaRes1
namespace Go.Proofs.Ytgeimdojpoeiaaa
open Go.RowKit

/-- A line that is certain. -/
def atV (x : LnD) (rs : List (List ByteArray)) (en : Bool) : Int :=
  if x.1.1 = 3 then (if (hitsN (hitB (x.2 ++ sfx en) rs) rs.length).length = 0 then nthQ x.2 rs 1 else (((hitsN (hitB (x.2 ++ sfx en) rs) rs.length).getD 0 0 : Nat) : Int))
  else nthQ x.2 rs x.1.2

def cerB (x : LnD) : Bool := decide (x.1.1 = 2) || decide (x.1.1 = 3)

/-- The line that another one reaches from a certain one on. -/
def farU (x : LnD) (rs : List (List ByteArray)) (a : Int) : Int :=
  if x.1.1 = 4 then (if x.2.size = 0 then a + x.1.2 else alongQ x.2 rs a x.1.2) else a + 1

def farD (x : LnD) (rs : List (List ByteArray)) (a : Int) : Int :=
  if x.1.1 = 4 then (if x.2.size = 0 then a + -x.1.2 else alongQ x.2 rs a (-x.1.2)) else a + -1

def manyV (x y : LnD) : Int :=
  if x.1.1 = 4 then (if x.2.size = 0 then x.1.2 else 1) else if y.1.1 = 4 then (if y.2.size = 0 then y.1.2 else 1) else 1

/-- A line that may be and is not certain. -/
theorem loose_of {x : LnD} (h : goodLn x = true) (hc : cerB x = false) : x = ((1, 0), ⟨#[]⟩) ∨ (x.1.1 = 4 ∧ 1 ≤ x.1.2 ∧ x.1.2 ≤ 10000) := by
  obtain ⟨⟨k, n⟩, s⟩ := x
  have hk := goodLn_kinds h
  simp only at hk
  unfold cerB at hc
  simp at hc
  unfold goodLn at h
  rcases hk with rfl | rfl | rfl | rfl
  · left
    simp at h
    obtain ⟨rfl, h2⟩ := h
    rcases empty_or7 s with rfl | ⟨_, h3, _⟩
    · rfl
    · exact absurd (by rw [h2]; rfl) h3
  · exact absurd rfl hc.1
  · exact absurd rfl hc.2
  · right
    simp at h
    exact ⟨rfl, h.1.1, h.1.2⟩

structure RsS (w W : World) (v : Value) (rs : List (List ByteArray)) (b : Nat) (y : LnD) : Prop where
  x : Rws W v rs
  ln : LnAt W b y
  bel : Below w.heap.size w W

theorem RsS.next {w W W' : World} {v : Value} {rs : List (List ByteArray)} {b : Nat} {x : LnD} (h : RsS w W v rs b x) (hb : Below W.heap.size W W') : RsS w W' v rs b x :=
  ⟨h.x.below hb, h.ln.below hb h.ln.lt, h.bel.trans (hb.mono h.bel.size)⟩

theorem RsS.start {w : World} {v : Value} {rs : List (List ByteArray)} (h : Rws w v rs) (k n : Int) (s : ByteArray) :
    RsS w (w.alloc (.cells #[.int .i64 k, .int .i64 n, .string s] 24)) v rs w.heap.size ((k, n), s) :=
  ⟨h.below ((Below.refl _ w).alloc (Nat.le_refl _) _), LnAt.new w k n s, (Below.refl _ w).alloc (Nat.le_refl _) _⟩

def certA (x : LnD) (rs : List (List ByteArray)) (en : Bool) : Value := .tuple #[.int .i64 (if cerB x = true then atV x rs en else 0), .bool (cerB x)]

set_option maxRecDepth 100000 in
set_option maxHeartbeats 4000000 in
theorem certain18_any (x : LnD) (rs : List (List ByteArray)) (en : Bool) (v : Value) (w : World) (h : Rws w v rs) (hl : rs.length ≤ 1000000) (hr : ∀ r ∈ rs, r.length ≤ 1000000) (hs : x.2.size ≤ 140737488351232) :
    Calls Try.prog 20 #[v, lnA x, .bool en] w fun e w' => e = .returned (certA x rs en) ∧ Below w.heap.size w w' := by
  obtain ⟨⟨k, n⟩, s⟩ := x
  simp only at hs
  have st := RsS.start h k n s
  have c0 := st.ln.c0
  have c1 := st.ln.c1
  have c2 := st.ln.c2
  simp only at c0 c1 c2
  have ST0 := hide st
  have C1 := hide (fun W (h : RsS w W v rs w.heap.size ((k, n), s)) => (edge16_any s rs en v W h.x hl hr hs).mono fun _ _ hh => And.intro hh.1 (h.next hh.2))
  have C2 := hide (fun W (h : RsS w W v rs w.heap.size ((k, n), s)) m => (nth16_any s rs m v W h.x hl hr).mono fun _ _ hh => And.intro hh.1 (h.next hh.2))
  have hav : certA ((k, n), s) rs en = .tuple #[.int .i64 (if cerB ((k, n), s) = true then (if k = 3 then (if (hitsN (hitB (s ++ sfx en) rs) rs.length).length = 0 then nthQ s rs 1 else (((hitsN (hitB (s ++ sfx en) rs) rs.length).getD 0 0 : Nat) : Int)) else nthQ s rs n) else 0), .bool (cerB ((k, n), s))] := rfl
  have hcb : cerB ((k, n), s) = (decide (k = 2) || decide (k = 3)) := rfl
  rw [hcb] at hav
  have HAV := hide hav
  obtain ⟨ao, cap, rfl⟩ := h.slice
  generalize certA ((k, n), s) rs en = R at *
  generalize nthQ s rs = Q at *
  generalize hitsN (hitB (s ++ sfx en) rs) rs.length = l at *
  generalize rs.length = L at *
  unfold lnA
  clear st h hl hr hs hav hcb
  rcases eqk k 3 with ⟨h3, h3b⟩ | ⟨h3, h3b⟩
  · subst h3
    clear h3b
    by_cases h0 : l.length = 0
    · have HV := hide (show R = .tuple #[.int .i64 (Q 1), .bool true] by rw [HAV.out]; simp [h0])
      rw [headQ_no h0] at C1
      clear HAV h0
      go_enter Try.func20, Try.ntmps20
      go_wp2_with fail
      refine Calls.mono ((C1.out) _ ST0.out) ?_
      rintro e w1 ⟨rfl, h1⟩
      have d2 := h1.ln.c2
      simp only at d2
      have ST1 := hide h1
      clear h1 C1 ST0
      go_wp2_with fail
      refine Calls.mono ((C2.out) w1 ST1.out 1) ?_
      rintro e w2 ⟨rfl, h2⟩
      have HB := hide h2.bel
      clear h2
      go_wp2_with fail
      go_ret2
      exact ⟨by rw [HV.out] <;> rfl, HB.out⟩
    · have HV := hide (show R = .tuple #[.int .i64 ((l.getD 0 0 : Nat) : Int), .bool true] by rw [HAV.out]; simp [h0])
      rw [headQ_yes h0] at C1
      generalize ((l.getD 0 0 : Nat) : Int) = z at *
      clear HAV h0
      go_enter Try.func20, Try.ntmps20
      go_wp2_with fail
      refine Calls.mono ((C1.out) _ ST0.out) ?_
      rintro e w1 ⟨rfl, h1⟩
      have HB := hide h1.bel
      clear h1 C1 ST0
      go_wp2_with fail
      go_ret2
      exact ⟨by rw [HV.out] <;> rfl, HB.out⟩
  · rcases eqk k 2 with ⟨h2, h2b⟩ | ⟨h2, h2b⟩
    · subst h2
      clear h2b
      have HV := hide (show R = .tuple #[.int .i64 (Q n), .bool true] by rw [HAV.out]; simp)
      clear HAV
      go_enter Try.func20, Try.ntmps20
      go_wp2_with fail
      refine Calls.mono ((C2.out) _ ST0.out n) ?_
      rintro e w2 ⟨rfl, h2⟩
      have HB := hide h2.bel
      clear h2
      go_wp2_with fail
      go_ret2
      exact ⟨by rw [HV.out] <;> rfl, HB.out⟩
    · have HV := hide (show R = .tuple #[.int .i64 0, .bool false] by rw [HAV.out]; simp [h2, h3])
      clear HAV
      have HB := hide (ST0.out).bel
      go_enter Try.func20, Try.ntmps20
      go_wp2_with fail
      go_ret2
      exact ⟨by rw [HV.out] <;> rfl, HB.out⟩

set_option maxRecDepth 100000 in
set_option maxHeartbeats 2000000 in
theorem auto18_any (w : World) : Calls Try.prog 39 #[] w fun e w' => e = .returned (lnA ((1, 0), ⟨#[]⟩)) ∧ Below w.heap.size w w' := by
  have hb := (Below.refl _ w).alloc (Nat.le_refl _) (.cells #[.int .i64 0, .int .i64 0, .string ⟨#[]⟩] 24)
  have h1 := LnAt.new w 0 0 ⟨#[]⟩
  have z0 := h1.c0
  have z1 := h1.c1
  have z2 := h1.c2
  have zz := h1.z
  have HB := hide hb
  simp only at z0 z1 z2
  clear h1 hb
  go_enter Try.func39, Try.ntmps39
  go_upto_region 1 with fail
  generalize w.alloc (.cells #[.int .i64 0, .int .i64 0, .string ⟨#[]⟩] 24) = w1 at *
  go_wp2_with fail
  refine bodyPost_ret (v := lnA ((1, 0), ⟨#[]⟩)) (by simp [results, Try.results39, go_sem, z0, z1, z2, lnA]) rfl ⟨rfl, below_three HB.out (Nat.le_refl _) _ _ _⟩

end Go.Proofs.Ytgeimdojpoeiaaa
