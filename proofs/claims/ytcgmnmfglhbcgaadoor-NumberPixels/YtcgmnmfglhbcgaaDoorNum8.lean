/- The text of a scaled number. -/
import Derived.Test.YtcgmnmfglhbcgaaDoorNum7
import Derived.Deep.LoopGhost
namespace Go.Proofs.YtcgmnmfglhbcgaaDoor
open Go.RowKit

/-- The table that a numeral's length is read off lies as its text says. -/
abbrev Tab (w : World) : Prop := Lib.TabIs Tryd.prog w "internal/strconv.uint64pow10" .u64 Lib.pow10Tab
theorem tab_named : (Tryd.prog.globalNamed "internal/strconv.uint64pow10").isSome = true := by kernel_rfl
theorem Tab.below {w w' : World} (h : Tab w) (hb : Below w.heap.size w w') : Tab w' := by
  obtain ⟨g, hg⟩ := Option.isSome_iff_exists.1 tab_named
  unfold Tab Lib.TabIs World.var? at h ⊢
  rw [hg] at h ⊢
  simp only [Option.bind_some] at h ⊢
  have hlt : g < w.heap.size := by
    rcases Nat.lt_or_ge g w.heap.size with h' | h'
    · exact h'
    · rw [Array.getElem?_eq_none h'] at h; cases h
  rw [hb.block g hlt]
  exact h

/-- A numeral. -/
def itB (n : Int) : ByteArray := ⟨(Lib.itoa n).toArray⟩
theorem below_drewN (w : World) (B : Nat) : ∀ k, Below B w (w.drewN k) := fun _ => ⟨rfl, rfl, rfl, Nat.le_refl _, fun _ _ => rfl⟩
theorem below_grow {w w' : World} {B : Nat} (h : Below B w w') (hB : B ≤ w'.heap.size) (os : Array Obj) : Below B w (Go.Sort.grow w' os) :=
  ⟨h.os, h.tape, h.output, by simp [Go.Sort.grow]; have := h.size; omega, fun k hk => by
    have e : (Go.Sort.grow w' os).heap[k]? = w'.heap[k]? := by
      show (w'.heap ++ os)[k]? = _
      exact Array.getElem?_append_left (Nat.lt_of_lt_of_le hk hB)
    exact e.trans (h.block k hk)⟩
theorem itoa_any (n : Int) (h0 : -9223372036854775808 ≤ n) (h1 : n ≤ 9223372036854775807) (w : World) (ht : Tab w) :
    Calls Tryd.prog 38 #[.int .i64 n] w fun e w' => e = .returned (.string (itB n)) ∧ Below w.heap.size w w' := by
  refine (Tryd.strconv_Itoa n h0 h1 w ht).mono ?_
  rintro e w' ⟨rfl, k, os, rfl⟩
  exact ⟨rfl, below_grow (below_drewN w _ k) (Nat.le_refl _) os⟩
theorem itoa_small (n : Int) (h0 : 0 ≤ n) (h1 : n ≤ 99) (w : World) :
    Calls Tryd.prog 38 #[.int .i64 n] w fun e w' => e = .returned (.string (itB n)) ∧ w' = w := by
  obtain ⟨i, rfl⟩ := Int.eq_ofNat_of_zero_le h0
  refine (Tryd.strconv_Itoa_small i (by omega) w).mono ?_
  rintro e w' ⟨rfl, rfl⟩
  refine ⟨?_, rfl⟩
  unfold itB Lib.itoa
  rw [if_neg (by omega)]
  rfl

theorem dec_len : ∀ (k u : Nat), u < 10 ^ (k + 1) → (Lib.decDigits u).length ≤ k + 1
  | k, u, h => by
    rw [Lib.decDigits]
    split
    · simp
    · cases k with
      | zero => omega
      | succ k =>
        have := dec_len k (u / 10) (by rw [Nat.pow_succ] at h; omega)
        simp only [List.length_append, List.length_singleton]
        omega
theorem itB_size (n : Int) (h0 : 0 ≤ n) (h1 : n ≤ 68719476736) : (itB n).size ≤ 12 := by
  have h := dec_len 11 n.toNat (by omega)
  show (Lib.itoa n).toArray.size ≤ 12
  unfold Lib.itoa
  rw [if_neg (by omega)]
  simpa using h

/-- The digits behind the point. -/
def tl (sc : Int) : Nat → Int → ByteArray → ByteArray
  | 0, _, acc => acc
  | k + 1, r, acc => if r = 0 then acc else tl sc k (r * 10 % sc) (acc ++ itB (r * 10 / sc))
theorem tl_zero (sc : Int) (k : Nat) (acc : ByteArray) : tl sc k 0 acc = acc := by cases k <;> simp [tl]
theorem tl_step (sc : Int) (k : Nat) {r : Int} (h : ¬ r = 0) (acc : ByteArray) : tl sc (k + 1) r acc = tl sc k (r * 10 % sc) (acc ++ itB (r * 10 / sc)) := by
  show (if r = 0 then _ else _) = _; rw [if_neg h]
/-- The text of a number from 0 on, behind what stands ahead of it. -/
def txt (p : ByteArray) (a sc : Int) : ByteArray := tl sc 7 (a % sc) (if 0 < a % sc then p ++ itB (a / sc) ++ (⟨#[46]⟩ : ByteArray) else p ++ itB (a / sc))
/-- The text of a scaled number. -/
def textV (n sc : Int) : ByteArray :=
  if isLen n = false then (⟨#[]⟩ : ByteArray) else if isSc sc = false then (⟨#[]⟩ : ByteArray)
  else if n < 0 then txt (⟨#[45]⟩ : ByteArray) (-n) sc else txt (⟨#[]⟩ : ByteArray) n sc
theorem ten_end {sc : Int} (h : isSc sc = true) (r : Int) : r * 10 ^ 6 % sc = 0 := by
  simp [isSc] at h
  rcases h with (rfl | rfl) | rfl <;> omega

set_option maxRecDepth 100000 in
set_option maxHeartbeats 2000000 in
theorem text_any (n sc : Int) (w : World) (ht : Tab w) :
    Calls Tryd.prog 20 #[.int .i64 n, .int .i64 sc] w fun e w' => e = .returned (.string (textV n sc)) ∧ Below w.heap.size w w' := by
  have ci := is_any n
  have cs := isScale_any sc
  cases hi : isLen n
  · rw [hi] at ci
    have hv : textV n sc = (⟨#[]⟩ : ByteArray) := by unfold textV; rw [if_pos hi]
    rw [hv]
    have CI := hide ci
    clear ci cs hv hi
    go_enter Tryd.func20, Tryd.ntmps20
    go_wp2_with fail
    refine (unhide CI _).mono ?_
    rintro e w1 ⟨rfl, rfl⟩
    go_wp2_with fail
    go_ret
    exact ⟨rfl, Below.refl _ _⟩
  · rw [hi] at ci
    have CI := hide ci
    clear ci
    cases hsc : isSc sc
    · rw [hsc] at cs
      have hv : textV n sc = (⟨#[]⟩ : ByteArray) := by unfold textV; rw [if_neg (by rw [hi]; simp), if_pos hsc]
      rw [hv]
      have CS := hide cs
      clear cs hv hi hsc
      go_enter Tryd.func20, Tryd.ntmps20
      go_wp2_with fail
      refine (unhide CI _).mono ?_
      rintro e w1 ⟨rfl, rfl⟩
      go_wp2_with fail
      refine (unhide CS _).mono ?_
      rintro e w2 ⟨rfl, rfl⟩
      go_wp2_with fail
      go_ret
      exact ⟨rfl, Below.refl _ _⟩
    · rw [hsc] at cs
      have CS := hide cs
      have hin := isLen_true hi
      have hscb : 1 ≤ sc ∧ sc ≤ 1000 := by have := hsc; simp [isSc] at this; omega
      have ten := fun r => ten_end hsc r
      have hv : textV n sc = if n < 0 then txt (⟨#[45]⟩ : ByteArray) (-n) sc else txt (⟨#[]⟩ : ByteArray) n sc := by unfold textV; rw [if_neg (by rw [hi]; simp), if_neg (by rw [hsc]; simp)]
      have HV := hide hv
      have TEN := hide ten
      have hin0 := hin.1
      have hin1 := hin.2
      have hs0 := hscb.1
      have hs1 := hscb.2
      have cd : ∀ a w, 0 ≤ a → a ≤ 68719476736 → Calls Tryd.prog 39 #[.int .i64 a, .int .i64 sc] w fun e w' => e = .returned (.int .i64 (a / sc)) ∧ w' = w := fun a w h0 h1 => by
        have := div_any a sc w
        rw [gdiv_nat h0 (by omega) (by omega)] at this
        exact this
      have cm : ∀ a w, Calls Tryd.prog 40 #[.int .i64 a, .int .i64 sc] w fun e w' => e = .returned (.int .i64 (a % sc)) ∧ w' = w := fun a w => by
        have := mod_any a sc w
        rw [gmod_nat (by omega) (by omega)] at this
        exact this
      have CD := hide cd
      have CM := hide cm
      clear cs hin hscb ten hv hi hsc cd cm
      go_enter Tryd.func20, Tryd.ntmps20
      go_wp2_with fail
      refine (unhide CI _).mono ?_
      rintro e w1 ⟨rfl, rfl⟩
      go_wp2_with fail
      refine (unhide CS _).mono ?_
      rintro e w2 ⟨rfl, rfl⟩
      clear CI CS
      go_upto_if 16 with fail
      go_cut [5, 0] (fun t a wx => wx = w2 ∧ ∃ (p : ByteArray) (b : Int), t = .string p ∧ a = .int .i64 b ∧ 0 ≤ b ∧ b ≤ 68719476736 ∧ p.size ≤ 1 ∧ Hid (textV n sc = txt p b sc))
      case first =>
        by_cases hn : n < 0
        · go_wp2_with fail
          go_meet
          case rel => exact ⟨rfl, _, _, rfl, rfl, by omega, by omega, Nat.le_refl 1, hide (by rw [HV.out, if_pos (by omega)])⟩
        · go_wp2_with fail
          go_meet
          case rel => exact ⟨rfl, _, _, rfl, rfl, by omega, by omega, Nat.zero_le 1, hide (by rw [HV.out, if_neg (by omega)])⟩
      case rest =>
        obtain ⟨rfl, p, b, rfl, rfl, hb0, hb1, hps, HT⟩ := hcut
        clear HV hin0 hin1
        have hq0 : 0 ≤ b / sc := Int.ediv_nonneg hb0 (by omega)
        have hq1 : b / sc ≤ b := Int.ediv_le_self _ hb0
        have hr0 : 0 ≤ b % sc := Int.emod_nonneg _ (by omega)
        have hr1 : b % sc < sc := Int.emod_lt_of_pos _ (by omega)
        have hz1 := itB_size (b / sc) hq0 (by omega)
        go_wp2_with fail
        refine (unhide CD b _ hb0 hb1).mono ?_
        rintro e w3 ⟨rfl, rfl⟩
        go_wp2_with fail
        refine (itoa_any (b / sc) (by omega) (by omega) _ ht).mono ?_
        rintro e w4 ⟨rfl, hb4⟩
        go_wp2_with fail
        refine (unhide CM b _).mono ?_
        rintro e w5 ⟨rfl, rfl⟩
        have ht7 : textV n sc = tl sc 7 (b % sc) (if 0 < b % sc then p ++ itB (b / sc) ++ (⟨#[46]⟩ : ByteArray) else p ++ itB (b / sc)) := HT.out
        have HT7 := hide ht7
        clear HT ht7
        have hz2 : (p ++ itB (b / sc)).size ≤ 13 := by rw [ByteArray.size_append]; omega
        generalize p ++ itB (b / sc) = q at *
        generalize b % sc = r at *
        go_upto_if 29 with fail
        go_cut [5] (fun t wx => wx = w5 ∧ ∃ u : ByteArray, t = .string u ∧ u.size ≤ 14 ∧ Hid (textV n sc = tl sc 7 r u))
        case first =>
          by_cases hr : 0 < r
          · go_wp2_with fail
            go_meet
            case rel => exact ⟨rfl, _, rfl, by rw [ByteArray.size_append]; show q.size + 1 ≤ 14; omega, hide (by rw [HT7.out, if_pos (by omega)])⟩
          · go_wp2_with fail
            go_meet
            case rel => exact ⟨rfl, _, rfl, by omega, hide (by rw [HT7.out, if_neg (by omega)])⟩
        case rest =>
          obtain ⟨rfl, u, rfl, hu, HU⟩ := hcut
          clear HT7 hz2
          have h10 := TEN.out r
          have hrr : r * 10 ^ 7 % sc = 0 := by
            rw [Int.pow_succ, ← Int.mul_assoc, Int.mul_emod, h10]; simp
          have HRR := hide hrr
          clear h10 hrr TEN
          go_wp2_with fail
          go_loopg [5, 6] 7 (fun k t x wr => ∃ (u : ByteArray) (r : Int), t = .string u ∧ x = .int .i64 r ∧ 0 ≤ r ∧ r < sc ∧ u.size + 12 * k ≤ 200 ∧ Hid (textV n sc = tl sc k r u) ∧ Hid (r * 10 ^ k % sc = 0) ∧ wr = wc)
          case atStart => exact ⟨u, r, rfl, rfl, hr0, hr1, by omega, HU, HRR, rfl⟩
          case round =>
            clear HU HRR hr0 hr1 hu u r
            obtain ⟨u, r, rfl, rfl, hr0, hr1, hu, HU, HRR, rfl⟩ := hrel
            by_cases hr : 0 < r
            · cases gk with
              | zero =>
                exfalso
                have h := HRR.out
                rw [Int.pow_zero, Int.mul_one, Int.emod_eq_of_lt hr0 hr1] at h
                omega
              | succ k =>
                have hU := HU.out
                rw [tl_step sc k (by omega) u] at hU
                have hR := HRR.out
                have e1 : r * 10 % sc * 10 ^ k % sc = 0 := by
                  rw [Int.mul_emod, Int.emod_emod_of_dvd _ (Int.dvd_refl sc), ← Int.mul_emod]
                  rw [Int.pow_succ, Int.mul_comm (10 ^ k) 10, ← Int.mul_assoc] at hR
                  exact hR
                have hq0 : 0 ≤ r * 10 / sc := Int.ediv_nonneg (by omega) (by omega)
                have hq1 : r * 10 / sc ≤ 9 := by
                  have : r * 10 / sc < 10 := Int.ediv_lt_of_lt_mul (by omega) (by omega)
                  omega
                have hz := itB_size (r * 10 / sc) hq0 (by omega)
                have hm0 : 0 ≤ r * 10 % sc := Int.emod_nonneg _ (by omega)
                have hm1 : r * 10 % sc < sc := Int.emod_lt_of_pos _ (by omega)
                have HU2 := hide hU
                have E1 := hide e1
                clear hU hR e1 HU HRR
                go_wp2_with fail
                refine (unhide CD (r * 10) _ (by omega) (by omega)).mono ?_
                rintro e w6 ⟨rfl, rfl⟩
                go_wp2_with fail
                refine (itoa_small (r * 10 / sc) hq0 (by omega) _).mono ?_
                rintro e w7 ⟨rfl, rfl⟩
                go_wp2_with fail
                refine (unhide CM (r * 10) _).mono ?_
                rintro e w8 ⟨rfl, rfl⟩
                go_wp2_with fail
                go_roundg k
                case rel => exact ⟨_, _, rfl, rfl, hm0, hm1, by rw [ByteArray.size_append]; omega, HU2, E1, rfl⟩
                case measure => omega
            · have hrz : r = 0 := by omega
              subst hrz
              have hU := HU.out
              rw [tl_zero] at hU
              have HU2 := hide hU
              clear hU HU HRR
              go_wp2_with fail
              go_ret
              exact ⟨by rw [HU2.out]; rfl, hb4⟩

end Go.Proofs.YtcgmnmfglhbcgaaDoor
