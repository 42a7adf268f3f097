/- What round, power and isScale answer. -/
import Derived.Test.YtcgmnmfglhbcgaaDoorNum4
namespace Go.Proofs.YtcgmnmfglhbcgaaDoor
open Go.RowKit

/-- The whole number next to that whose point stands behind so many digits; one beyond 2^36 ends it. -/
def rrec (L : List Int) (pt : Int) : Nat → Nat → Int → Int
  | 0, _, n => if 5 ≤ ldig L pt then n + 1 else n
  | r + 1, k, n => if 68719476736 < n * 10 + ldig L k then n * 10 + ldig L k else rrec L pt r (k + 1) (n * 10 + ldig L k)
def roundV (L : List Int) (pt : Int) : Int := rrec L pt pt.toNat 0 0
theorem rrec_big {L : List Int} {pt : Int} {r k : Nat} {n : Int} (h : 68719476736 < n * 10 + ldig L k) : rrec L pt (r + 1) k n = n * 10 + ldig L k := by unfold rrec; rw [if_pos h]
theorem rrec_on {L : List Int} {pt : Int} {r k : Nat} {n : Int} (h : ¬ 68719476736 < n * 10 + ldig L k) : rrec L pt (r + 1) k n = rrec L pt r (k + 1) (n * 10 + ldig L k) := by
  show (if 68719476736 < n * 10 + ldig L k then n * 10 + ldig L k else rrec L pt r (k + 1) (n * 10 + ldig L k)) = _
  rw [if_neg h]
theorem rrec_end {L : List Int} {pt : Int} {k : Nat} {n : Int} : rrec L pt 0 k n = if 5 ≤ ldig L pt then n + 1 else n := rfl

/-- All of a list are digits. -/
def LD (L : List Int) : Prop := ∀ i : Int, 0 ≤ ldig L i ∧ ldig L i ≤ 9

set_option maxRecDepth 100000 in
set_option maxHeartbeats 2000000 in
theorem round_any (v : Value) (L : List Int) (pt : Int) (w : World) (hr : Reads w v L) (hv : ∃ a n c, v = .slice (some a) n c ∧ n = L.length) (hl : L.length ≤ 9223372036854775807) (hL : LD L) (hp : pt ≤ 1000000) :
    Calls Tryd.prog 32 #[v, .int .i64 pt] w fun e w' => e = .returned (.int .i64 (roundV L pt)) ∧ Below w.heap.size w w' := by
  have hv' := hv
  obtain ⟨a, nn, cp, rfl, hnn⟩ := hv
  have hdig : ∀ i w', w' = w.alloc (.cells #[.slice (some a) nn cp] 50) → Calls Tryd.prog 51 #[.int .i64 i, .pointer (some ⟨w.heap.size, 0, none⟩)] w' fun e w2 => e = .returned (.int .i64 (ldig L i)) ∧ w2 = w' := by
    intro i w' e
    subst e
    exact digit_any i _ L w.heap.size _ (Boxed.new w _ _) (hr.below ((Below.refl _ _).alloc (Nat.le_refl _) _)) hv' hl
  have HD := hide hdig
  obtain ⟨P, hP⟩ : ∃ P, P = pt.toNat := ⟨_, rfl⟩
  have hPb : P ≤ 1000000 := by omega
  have hPi : pt = (P : Int) ∨ (pt < 0 ∧ P = 0) := by omega
  have hRV : roundV L pt = rrec L pt P 0 0 := by unfold roundV; rw [hP]
  have HRV := hide hRV
  clear hdig hr hv' hnn hl hP hRV
  go_enter Tryd.func32, Tryd.ntmps32
  go_wp2_with fail
  go_loop [6, 10] (fun t i => ∃ (k : Nat) (n : Int), k ≤ P ∧ i = .int .i64 k ∧ t = .int .i64 n ∧ 0 ≤ n ∧ n ≤ 68719476736 ∧ Hid (roundV L pt = rrec L pt (P - k) k n)) (fun _ i => P - (intOf i).toNat)
  case atStart => exact ⟨0, 0, Nat.zero_le _, rfl, rfl, by omega, by omega, HRV⟩
  case round =>
    obtain ⟨k, n, hk, rfl, rfl, hn0, hn1, HR⟩ := hrel
    by_cases hlt : k < P
    · have hi : (k : Int) < pt := by omega
      have hd := hL (k : Int)
      have cd := HD.out (k : Int)
      obtain ⟨r, hr⟩ : ∃ r, P - k = r + 1 := ⟨P - k - 1, by omega⟩
      have hr2 : P - (k + 1) = r := by omega
      have hR := HR.out
      rw [hr] at hR
      by_cases hbig : 68719476736 < n * 10 + ldig L k
      · rw [rrec_big hbig] at hR
        generalize ldig L k = y at *
        have CD := hide cd
        have HR2 := hide hR
        have hd0 := hd.1
        have hd1 := hd.2
        clear cd hR HR hd HRV hr hr2
        go_wp2_with fail
        refine (unhide CD _ rfl).mono ?_
        rintro e w2 ⟨rfl, rfl⟩
        go_wp2_with fail
        go_ret
        exact ⟨by rw [HR2.out]; rfl, (Below.refl _ _).alloc (Nat.le_refl _) _⟩
      · rw [rrec_on hbig, ← hr2] at hR
        generalize ldig L k = y at *
        have CD := hide cd
        have HR2 := hide hR
        have hd0 := hd.1
        have hd1 := hd.2
        clear cd hR HR hd HRV hr hr2
        go_wp2_with fail
        refine (unhide CD _ rfl).mono ?_
        rintro e w2 ⟨rfl, rfl⟩
        go_wp2_with fail
        go_round
        case rel => exact ⟨k + 1, n * 10 + y, by omega, by go_num, rfl, by omega, by omega, HR2⟩
        case measure => simp [intOf]; omega
    · have hi : ¬ (k : Int) < pt := by omega
      have hR := HR.out
      rw [show P - k = 0 by omega, rrec_end] at hR
      have hd := hL pt
      have cd := HD.out pt
      generalize ldig L pt = y at *
      have CD := hide cd
      have hd0 := hd.1
      have hd1 := hd.2
      by_cases h5 : 5 ≤ y
      · rw [if_pos h5] at hR
        have HR2 := hide hR
        clear cd hR HR hd HRV
        go_wp2_with fail
        refine (unhide CD _ rfl).mono ?_
        rintro e w2 ⟨rfl, rfl⟩
        go_wp2_with fail
        go_ret
        exact ⟨by rw [HR2.out]; rfl, (Below.refl _ _).alloc (Nat.le_refl _) _⟩
      · rw [if_neg h5] at hR
        have HR2 := hide hR
        clear cd hR HR hd HRV
        go_wp2_with fail
        refine (unhide CD _ rfl).mono ?_
        rintro e w2 ⟨rfl, rfl⟩
        go_wp2_with fail
        go_ret
        exact ⟨by rw [HR2.out]; rfl, (Below.refl _ _).alloc (Nat.le_refl _) _⟩

/-- The exponent as a number, kept within 1000. -/
def powGo (X : ByteArray) : Nat → Int
  | 0 => 0
  | k + 1 => if powGo X k * 10 + dAt X k < 1000 then powGo X k * 10 + dAt X k else 1000
def powV (d : Bool) (X : ByteArray) : Int := if d then -(powGo X X.size) else powGo X X.size
theorem powGo_bd {X : ByteArray} (h : AllD X) : ∀ k, k ≤ X.size → 0 ≤ powGo X k ∧ powGo X k ≤ 1000
  | 0, _ => by show 0 ≤ (0 : Int) ∧ (0 : Int) ≤ 1000; omega
  | k + 1, hk => by
    have ih := powGo_bd h k (by omega)
    have hd := h k (by omega)
    show 0 ≤ (if powGo X k * 10 + dAt X k < 1000 then powGo X k * 10 + dAt X k else 1000) ∧ (if powGo X k * 10 + dAt X k < 1000 then powGo X k * 10 + dAt X k else 1000) ≤ 1000
    split <;> omega
theorem ret_i {a a' : Int} (h : a = a') : Ending.returned (.int .i64 a) = .returned (.int .i64 a') := by rw [h]

set_option maxRecDepth 100000 in
set_option maxHeartbeats 2000000 in
theorem power_any (m d : Bool) (W F X : ByteArray) (len : Nat) (w : World) (hX : AllD X) (hs : X.size ≤ 9223372036854775000) :
    Calls Tryd.prog 33 #[.agg (pcells m d W F X len)] w fun e w' => e = .returned (.int .i64 (powV d X)) ∧ Below w.heap.size w w' := by
  have hP : PAt (w.alloc (.cells (pcells m d W F X len) 46)) w.heap.size m d W F X len := heap_alloc_new w _
  have c1 := hP.c1
  have c4 := hP.c4
  have hpv : powV d X = if d then -(powGo X X.size) else powGo X X.size := rfl
  have HPV := hide hpv
  clear hP hpv
  go_enter Tryd.func33, Tryd.ntmps33
  go_wp2_with fail
  go_loop [3, 8] (fun t i => ∃ (k : Nat) (n : Int), k ≤ X.size ∧ i = .int .i64 k ∧ t = .int .i64 n ∧ 0 ≤ n ∧ n ≤ 1000 ∧ Hid (n = powGo X k)) (fun _ i => X.size - (intOf i).toNat)
  case atStart => exact ⟨0, 0, Nat.zero_le _, rfl, rfl, by omega, by omega, rfl⟩
  case round =>
    obtain ⟨k, n, hk, rfl, rfl, hn0, hn1, HN⟩ := hrel
    by_cases hlt : k < X.size
    · have hi : (k : Int) < (X.size : Int) := by omega
      have hd := hX k hlt
      have hst : powGo X (k + 1) = if n * 10 + dAt X k < 1000 then n * 10 + dAt X k else 1000 := by rw [HN.out]; rfl
      have hdv : dAt X k = (X[k].toNat : Int) - 48 := by unfold dAt; rw [byte_at X k hlt]
      rw [hdv] at hd hst
      have hd0 := hd.1
      have hd1 := hd.2
      have HST := hide hst
      clear hst hdv hd
      go_wp2_with fail
      go_round
      case rel => exact ⟨k + 1, _, by omega, by go_num, rfl, by omega, by omega, by show min _ _ = _; rw [HST.out]; split <;> omega⟩
      case measure => simp [intOf]; omega
    · have hkk : k = X.size := by omega
      have hi : ¬ (k : Int) < (X.size : Int) := by omega
      have hnn : n = powGo X X.size := by rw [HN.out, hkk]
      have HNN := hide hnn
      clear HN hnn hkk
      cases d
      · go_wp2_with fail
        go_ret
        exact ⟨ret_i (by rw [HPV.out]; exact HNN.out), (Below.refl _ _).alloc (Nat.le_refl _) _⟩
      · go_wp2_with fail
        go_ret
        exact ⟨ret_i (by rw [HPV.out]; show -n = -(powGo X X.size); rw [HNN.out]), (Below.refl _ _).alloc (Nat.le_refl _) _⟩

end Go.Proofs.YtcgmnmfglhbcgaaDoor
