/- The texts that this proof stands on, part 5 of 5. -/
import Derived.Test.YtcjmmblkcdpgoaaGreatDoorM4
import Derived.Test.YtcjmmblkcdpgoaaGreatDoorM2
import Derived.Deep.RegionHeld3
import Derived.Test.YtcjmmblkcdpgoaaGreatDoorM1
import Derived.Test.YtcjmmblkcdpgoaaGreatDoorRMulDiv2
import Derived.Test.YtcjmmblkcdpgoaaGreatDoorRows
import Derived.HandedShaped
import Derived.OpenShut
import Derived.ChangeArms
import Derived.LaidLaws
import Derived.Lib.LaidTab

/- Whether a number has a point or an exponent, whatever its bytes. -/
namespace Go.Proofs.YtcjmmblkcdpgoaaGreatDoor
open Go.RowKit

theorem enc_hi3 (r : Int) (h0 : 128 ≤ r) (hv : Lib.validRune r = true) : (∃ a b, Utf8.encode r = ⟨#[a, b]⟩ ∧ 128 ≤ b.toNat) ∨ (∃ a b c, Utf8.encode r = ⟨#[a, b, c]⟩ ∧ 128 ≤ c.toNat) ∨ (∃ a b c d, Utf8.encode r = ⟨#[a, b, c, d]⟩) := by
  have hr : Utf8.valid r = true := by
    unfold Lib.validRune at hv
    have := of_decide_eq_true hv
    unfold Utf8.valid
    simp
    omega
  unfold Utf8.encode
  rw [hr]
  simp only [if_true]
  rw [if_neg (by omega)]
  split
  · refine .inl ⟨_, _, rfl, ?_⟩
    simp
    omega
  · split
    · refine .inr (.inl ⟨_, _, _, rfl, ?_⟩)
      simp
      omega
    · exact .inr (.inr ⟨_, _, _, _, rfl⟩)

set_option maxRecDepth 100000 in
set_option maxHeartbeats 4000000 in
theorem runeHi3_any (r : Int) (w : World) (h0 : 128 ≤ r) (h1 : r ≤ 2147483647) :
    Calls Tryz.prog 125 #[.string ⟨#[46, 101, 69]⟩, .int .i32 r] w fun e w' => e = .returned (.int .i64 (-1)) ∧ Below w.heap.size w w' := by
  have g1 : ¬ r < 128 := by omega
  have g0 : (0 : Int) ≤ r := by omega
  rcases eqk r 65533 with ⟨he, heb⟩ | ⟨he, heb⟩
  · subst he
    have n0 := fun ty => run_next_ascii (P := Tryz.prog) w ⟨#[46, 101, 69]⟩ 0 ty (by decide) (by decide)
    have n1 := fun ty => run_next_ascii (P := Tryz.prog) w ⟨#[46, 101, 69]⟩ 1 ty (by decide) (by decide)
    have n2 := fun ty => run_next_ascii (P := Tryz.prog) w ⟨#[46, 101, 69]⟩ 2 ty (by decide) (by decide)
    have n3 := fun ty => run_next_end (P := Tryz.prog) w ⟨#[46, 101, 69]⟩ 3 ty (by decide)
    go_enter Tryz.func125, Tryz.ntmps125
    go_wp2_with fail
    go_loopw [176] (fun _ wr => ∃ i : Nat, i ≤ 3 ∧ wr = w.iter ⟨#[46, 101, 69]⟩ i) (fun _ wr => 3 - wr.iterPos w.heap.size)
    case atStart => exact ⟨0, by omega, rfl⟩
    case round =>
      obtain ⟨i, hi, rfl⟩ := hrel
      obtain rfl | rfl | rfl | rfl : i = 0 ∨ i = 1 ∨ i = 2 ∨ i = 3 := by omega
      · go_wp2_with fail
        go_round
        case rel => exact ⟨1, by omega, rfl⟩
        case measure => simp
      · go_wp2_with fail
        go_round
        case rel => exact ⟨2, by omega, rfl⟩
        case measure => simp
      · go_wp2_with fail
        go_round
        case rel => exact ⟨3, by omega, rfl⟩
        case measure => simp
      · go_wp2_with fail
        go_ret
        exact ⟨rfl, (Below.refl _ w).alloc (Nat.le_refl _) _⟩
  · have cv := fun w => Tryz.utf8_ValidRune r w
    cases hv : Lib.validRune r
    · rw [hv] at cv
      have CV := hide cv
      clear cv hv he
      go_enter Tryz.func125, Tryz.ntmps125
      go_wp2_with fail
      refine (unhide CV _).mono ?_
      rintro e w1 ⟨rfl, rfl⟩
      go_wp2_with fail
      go_ret
      exact ⟨rfl, Below.refl _ _⟩
    · rw [hv] at cv
      have CV := hide cv
      rcases enc_hi3 r h0 hv with ⟨a, b, hE, hb⟩ | ⟨a, b, c, hE, hb⟩ | ⟨a, b, c, d, hE⟩
      · skip
        have ci := fun w => Tryz.strings_IndexByte ⟨#[69]⟩ (b.toNat : Int) w
        have hng : Lib.indexByte (⟨#[69]⟩ : ByteArray).data.toList (((b.toNat : Int)).toNat.toUInt8) = -1 := by
          rw [show (((b.toNat : Int)).toNat.toUInt8) = b by simp]
          have h69 : ((69 : UInt8) == b) = false := by rw [beq_eq_false_iff_ne]; intro e; rw [← e] at hb; exact absurd hb (by decide)
          show Lib.indexByte [69] b = -1
          skip
          simp [Lib.indexByte, h69]
          try (intro e; rw [← e] at hb; exact absurd hb (by decide))
          try (intro e; rw [e] at hb; exact absurd hb (by decide))
        rw [hng] at ci
        have CI := hide ci
        have hbb : ((101 : Int) == (b.toNat : Int)) = false := by rw [beq_eq_false_iff_ne]; omega
        have hbn : ((101 : Int) != (b.toNat : Int)) = true := by rw [bne, hbb]; rfl
        have hcx : ((((⟨#[46, 101, 69]⟩ : ByteArray)[1]'(by decide)).toNat : Int) != (((⟨#[a, b]⟩ : ByteArray)[1]'(by show 1 < 2; decide)).toNat : Int)) = true := hbn
        clear cv hv he ci hbn hbb hng
        go_enter Tryz.func125, Tryz.ntmps125
        go_wp2_with fail
        refine (unhide CV _).mono ?_
        rintro e w1 ⟨rfl, hw⟩
        subst w1
        go_wp2_with fail
        go_step3
        go_wp2_with fail
        go_loopw [9] (fun i wr => i = .int .i64 1 ∧ wr = w) (fun _ _ => 0)
        case atStart => exact ⟨rfl, rfl⟩
        case round =>
          obtain ⟨rfl, rfl⟩ := hrel
          go_wp2_with fail
          go_step3
          go_wp2_with fail
          go_quiet (fail)
          go_wp2_with fail
          go_quiet ((go_at_call 168; exact (unhide CI _).mono fun _ _ h => ⟨h.1, _, h.2⟩))
          go_wp2_with fail
          rw [Exit.noGoto_ret]
          simp only [Exit.inBlock]
          (try go_wp2_with fail)
          rw [Exit.noGoto_ret]
          simp only [Exit.inBlock]
          go_ret
          exact ⟨rfl, drw _ _ _⟩
      · skip
        have ci := fun w => Tryz.strings_IndexByte ⟨#[]⟩ (c.toNat : Int) w
        have hng : Lib.indexByte (⟨#[]⟩ : ByteArray).data.toList (((c.toNat : Int)).toNat.toUInt8) = -1 := by
          rw [show (((c.toNat : Int)).toNat.toUInt8) = c by simp]
          rfl
        rw [hng] at ci
        have CI := hide ci
        have hbb : ((69 : Int) == (c.toNat : Int)) = false := by rw [beq_eq_false_iff_ne]; omega
        have hbn : ((69 : Int) != (c.toNat : Int)) = true := by rw [bne, hbb]; rfl
        have hcx : ((((⟨#[46, 101, 69]⟩ : ByteArray)[2]'(by decide)).toNat : Int) != (((⟨#[a, b, c]⟩ : ByteArray)[2]'(by show 2 < 3; decide)).toNat : Int)) = true := hbn
        clear cv hv he ci hbn hbb hng
        go_enter Tryz.func125, Tryz.ntmps125
        go_wp2_with fail
        refine (unhide CV _).mono ?_
        rintro e w1 ⟨rfl, hw⟩
        subst w1
        go_wp2_with fail
        go_step3
        go_wp2_with fail
        go_loopw [9] (fun i wr => i = .int .i64 2 ∧ wr = w) (fun _ _ => 0)
        case atStart => exact ⟨rfl, rfl⟩
        case round =>
          obtain ⟨rfl, rfl⟩ := hrel
          go_wp2_with fail
          go_step3
          go_wp2_with fail
          go_quiet (fail)
          go_wp2_with fail
          go_quiet ((go_at_call 168; exact (unhide CI _).mono fun _ _ h => ⟨h.1, _, h.2⟩))
          go_wp2_with fail
          rw [Exit.noGoto_ret]
          simp only [Exit.inBlock]
          (try go_wp2_with fail)
          rw [Exit.noGoto_ret]
          simp only [Exit.inBlock]
          go_ret
          exact ⟨rfl, drw _ _ _⟩
      · clear cv hv he
        go_enter Tryz.func125, Tryz.ntmps125
        go_wp2_with fail
        refine (unhide CV _).mono ?_
        rintro e w1 ⟨rfl, hw⟩
        subst w1
        go_wp2_with fail
        go_step3
        go_wp2_with fail
        go_loopw [9] (fun i wr => i = .int .i64 3 ∧ wr = w) (fun _ _ => 0)
        case atStart => exact ⟨rfl, rfl⟩
        case round =>
          obtain ⟨rfl, rfl⟩ := hrel
          go_wp2_with fail
          (try rw [Exit.noGoto_ret])
          go_ret
          exact ⟨rfl, Below.refl _ _⟩

theorem hi_not3 {c : UInt8} (h : 128 ≤ c.toNat) : [(46 : UInt8), 101, 69].contains c = false := by
  have h0 : (c == 46) = false := by rw [beq_eq_false_iff_ne]; intro e; rw [e] at h; exact absurd h (by decide)
  have h1 : (c == 101) = false := by rw [beq_eq_false_iff_ne]; intro e; rw [e] at h; exact absurd h (by decide)
  have h2 : (c == 69) = false := by rw [beq_eq_false_iff_ne]; intro e; rw [e] at h; exact absurd h (by decide)
  simp [List.contains, List.elem, h0, h1, h2]

set_option maxRecDepth 100000 in
set_option maxHeartbeats 4000000 in
theorem idxShort3_any (s : ByteArray) (w : World) (h8 : s.size ≤ 8) :
    Calls Tryz.prog 85 #[.string s, .string ⟨#[46, 101, 69]⟩] w fun e w' => e = .returned (.int .i64 (Lib.indexAny s.data.toList [46, 101, 69])) ∧ Below w.heap.size w w' := by
  have h8z : ¬ (8 : Int) < (s.size : Int) := by omega
  have cu := fun w => Tryz.strings_shouldUseASCIISet (s.size : Int) w
  rw [decide_eq_false h8z] at cu
  have hI : IterAt (w.iter s 0) w.heap.size s 0 := World.iter_heap w s 0
  have hB : Below w.heap.size w (w.iter s 0) := (Below.refl _ w).alloc (Nat.le_refl _) _
  have CU := hide cu
  have HI := hide hI
  have HB := hide hB
  clear cu hI hB h8z
  go_enter Tryz.func85, Tryz.ntmps85
  go_wp2_with fail
  refine (unhide CU _).mono ?_
  rintro e w1 ⟨rfl, hw⟩
  subst w1
  go_wp2_with fail
  go_loopg [9, 10] (s.size + 1) (fun g _ _ wx => ∃ i : Nat, s.size < i + g ∧ Hid (IterAt wx w.heap.size s i) ∧ Hid (Below w.heap.size w wx) ∧ Hid (Lib.NoAny s.data.toList [46, 101, 69] i))
  case atStart => exact ⟨0, by omega, HI, HB, hide (Lib.NoAny.zero _ _)⟩
  case round =>
    clear HI HB
    obtain ⟨i, hig, HI, HB, HN⟩ := hrel
    by_cases hi : i < s.size
    · obtain ⟨x, hx⟩ : ∃ x : UInt8, s[i]'hi = x := ⟨_, rfl⟩
      have hxl : s.data.toList[i]? = some x := by rw [← hx]; exact Lib.data_getElem? s i hi
      have hgx : s.get! i = x := get_data s i hxl
      have hlt := (HI.out).lt
      have hle : w.heap.size ≤ w.heap.size := Nat.le_refl _
      by_cases hx128 : x.toNat < 128
      · have hn := fun ty => run_next_at HI.out ty hi
        rw [decode_ascii s i hi (by rw [hx]; exact hx128), hx] at hn
        simp only at hn
        have HI2 := hide (iterTo_at HI.out (i + 1))
        have HB2 := hide (iterTo_below (s := s) HB.out hle (i + 1))
        have ci := fun w => Tryz.strings_IndexRune_ascii ⟨#[46, 101, 69]⟩ (x.toNat : Int) w (by omega) (by omega)
        have hback : ((x.toNat : Int)).toNat.toUInt8 = x := by simp
        rw [hback] at ci
        have hcon := Lib.contains_iff_indexByte [46, 101, 69] x
        have CI := hide ci
        have Hx := hide hxl
        clear ci hxl hx hgx HI HB hback
        cases hin : [(46 : UInt8), 101, 69].contains x
        · rw [hin] at hcon
          have hlt0 : ¬ ((0 : Int) ≤ Lib.indexByte [46, 101, 69] x) := of_decide_eq_false hcon.symm
          have HN2 := hide ((HN.out).succ Hx.out hin)
          clear hcon hin HN
          go_wp2_with fail
          refine (unhide CI _).mono ?_
          rintro e w2 ⟨rfl, hw⟩
          subst w2
          go_wp2_with fail
          cases gk with
          | zero => omega
          | succ g =>
            go_roundg g
            case measure => omega
            case rel => exact ⟨i + 1, by omega, HI2, HB2, HN2⟩
        · rw [hin] at hcon
          have hge : (0 : Int) ≤ Lib.indexByte [46, 101, 69] x := of_decide_eq_true hcon.symm
          have HV := hide (Lib.indexAny_hit HN.out Hx.out hin)
          clear hcon hin HN
          go_wp2_with fail
          refine (unhide CI _).mono ?_
          rintro e w2 ⟨rfl, hw⟩
          subst w2
          go_wp2_with fail
          go_ret
          exact ⟨by rw [HV.out]; rfl, HB2.out⟩
      · have hh : 128 ≤ (s[i]'hi).toNat := by rw [hx]; omega
        obtain ⟨hd1, hd2⟩ := decode_high s i hi hh
        have hd3 := decode_le s i
        have hcont := dec_cont s i (by rw [hgx]; omega)
        have hn := fun ty => run_next_at HI.out ty hi
        have HN2 : Hid (Lib.NoAny s.data.toList [46, 101, 69] (i + (Utf8.decode s i).2)) := hide (fun j b hj hb => by
          rcases Nat.lt_trichotomy j i with h | h | h
          · exact (HN.out) j b h hb
          · subst h
            rw [hxl] at hb
            obtain rfl := Option.some.inj hb
            exact hi_not3 (by omega)
          · have := (hcont j h hj).2
            rw [get_data s j hb] at this
            exact hi_not3 this)
        generalize (Utf8.decode s i).1 = R at *
        generalize (Utf8.decode s i).2 = M at *
        have HI2 := hide (iterTo_at HI.out (i + M))
        have HB2 := hide (iterTo_below (s := s) HB.out hle (i + M))
        have ci := fun w => runeHi3_any (R : Int) w (by omega) (by omega)
        have CI := hide ci
        clear ci hcont HI HB HN hxl hx hgx hh hx128
        go_wp2_with fail
        refine (unhide CI _).mono ?_
        rintro e w2 ⟨rfl, hb⟩
        have HI3 := hide ((HI2.out).below hb)
        have HB3 := hide ((HB2.out).trans (hb.mono (HB2.out).size))
        clear hb HI2 HB2 CI
        go_wp2_with fail
        cases gk with
        | zero => omega
        | succ g =>
          go_roundg g
          case measure => omega
          case rel => exact ⟨i + M, by omega, HI3, HB3, HN2⟩
    · have hn := fun ty => run_next_done HI.out ty hi
      have hv : Lib.indexAny s.data.toList [46, 101, 69] = -1 := Lib.indexAny_none (fun j b hj hb => (HN.out) j b (by simp at hj; omega) hb)
      have HV := hide hv
      clear hv HN
      go_wp2_with fail
      go_ret
      exact ⟨by rw [HV.out]; rfl, HB.out⟩

theorem idxDEE_any (s : ByteArray) (w : World) (hs : s.size ≤ 2000000) :
    Calls Tryz.prog 85 #[.string s, .string ⟨#[46, 101, 69]⟩] w fun e w' => e = .returned (.int .i64 (Lib.indexAny s.data.toList [46, 101, 69])) ∧ Below w.heap.size w w' := by
  by_cases h8 : s.size ≤ 8
  · exact idxShort3_any s w h8
  · refine (Tryz.strings_IndexAny_long (zero_of_info info_set).1 s ⟨#[46, 101, 69]⟩ w (by decide) (by omega) (by omega) (by decide) (ascii_of_all (by decide))).mono fun e w' h => ⟨h.1, ?_⟩
    rw [h.2]
    exact ((Below.refl _ w).alloc (Nat.le_refl _) _).alloc (by simp) _
/-- A number has a point or an exponent. -/
def deeB (s : ByteArray) : Bool := decide (0 ≤ Lib.indexAny s.data.toList [46, 101, 69])

set_option maxRecDepth 100000 in
set_option maxHeartbeats 2000000 in
theorem containsDEE_any (s : ByteArray) (w : World) (hs : s.size ≤ 2000000) :
    Calls Tryz.prog 42 #[.string s, .string ⟨#[46, 101, 69]⟩] w fun e w' => e = .returned (.bool (deeB s)) ∧ Below w.heap.size w w' := by
  have ci := idxDEE_any s w hs
  unfold deeB
  generalize Lib.indexAny s.data.toList [46, 101, 69] = P at *
  have CI := hide ci
  clear ci
  go_enter Tryz.func42, Tryz.ntmps42
  go_wp2_with fail
  refine Calls.mono CI.out ?_
  rintro e w1 ⟨rfl, hb⟩
  go_wp2_with fail
  go_ret
  exact ⟨by simp, hb⟩

end Go.Proofs.YtcjmmblkcdpgoaaGreatDoor

/- Small letters of texts of any length. -/
namespace Go.Proofs.YtcjmmblkcdpgoaaGreatDoor
open Go.RowKit

theorem low_one (c : UInt8) : (lowB c).size ≤ 1 := by unfold lowB; exact Nat.le_of_ble_eq_true rfl
theorem eb_len1 {g : Nat → ByteArray} (h : ∀ k, (g k).size ≤ 1) : ∀ n, (eb g n).length ≤ n
  | 0 => by simp [eb]
  | n + 1 => by
    have ih := eb_len1 h n
    have hn := h n
    unfold eb
    simp
    omega
theorem eb_size1 {g : Nat → ByteArray} (h : ∀ k, (g k).size ≤ 1) (n : Nat) : (⟨(eb g n).toArray⟩ : ByteArray).size ≤ n := by
  have := eb_len1 h n
  show (eb g n).toArray.size ≤ n
  simpa using this

set_option maxRecDepth 100000 in
set_option maxHeartbeats 2000000 in
theorem eachByte1_any (s : ByteArray) (F : Nat) (c : Value) (g : Nat → ByteArray) (w : World) (hs : s.size ≤ 140737488351232) (hg : ∀ k, (g k).size ≤ 1)
    (eF : ∀ args w, (callFunc F args).run Tryz.prog w = .ok (.enter F args) w)
    (hc : ∀ (k : Nat) w', k < s.size → Below w.heap.size w w' → Calls Tryz.prog F #[.int .i64 (k : Int), c] w' fun e w'' => e = .returned (.string (g k)) ∧ Below w'.heap.size w' w'') :
    Calls Tryz.prog 133 #[.string s, .func (.func F) #[] #[c]] w fun e w' => e = .returned (.string ⟨(eb g s.size).toArray⟩) ∧ Below w.heap.size w w' := by
  have h0 : Lib.IsBuilder 198 5 w.heap.size w.heap.size (Lib.byteCells []) (w.alloc (.cells #[.pointer none, .slice none 0 0] 198)) := Lib.fresh_isBuilder _ _ w
  have b0 : Below w.heap.size w (w.alloc (.cells #[.pointer none, .slice none 0 0] 198)) := (Below.refl _ w).alloc (Nat.le_refl _) _
  have HC := hide hc
  have HG := hide hg
  clear hc hg
  go_enter Tryz.func133, Tryz.ntmps133
  go_wp2_with fail
  go_loopw [9] (fun i wr => ∃ k : Nat, k ≤ s.size ∧ i = .int .i64 (k : Int) ∧ Lib.IsBuilder 198 5 w.heap.size w.heap.size (Lib.byteCells (eb g k)) wr ∧ Below w.heap.size w wr) (fun i _ => ((s.size : Int) - intOf i).toNat)
  case atStart => exact ⟨0, Nat.zero_le _, by go_num, h0, b0⟩
  case round =>
    clear h0 b0
    obtain ⟨k, hk, rfl, hI, hB⟩ := hrel
    by_cases hlt : k < s.size
    · have hi : (k : Int) < (s.size : Int) := by omega
      have hl := eb_len1 HG.out k
      have hgk := HG.out k
      go_wp2_with fail
      refine (unhide HC k _ hlt hB).mono ?_
      rintro e w1 ⟨rfl, hb1⟩
      have hI1 : Lib.IsBuilder 198 5 w.heap.size w.heap.size (Lib.byteCells (eb g k)) w1 := builder_below hI hb1
      have hB1 := hB.trans (hb1.mono hB.size)
      go_wp2_with fail
      refine (writeStr_any w.heap.size w.heap.size _ (g k) _ hI1 (by rw [Lib.byteCells_length]; omega) hB1.size).mono ?_
      rintro e w2 ⟨rfl, hI2, hb2⟩
      rw [cells_app] at hI2
      have hB2 := hB1.trans hb2
      clear hI hI1 hb1 hb2 hB hB1
      go_wp2_with fail
      go_round
      case rel => exact ⟨k + 1, by omega, by go_num, hI2, hB2⟩
      case measure => simp [intOf]; omega
    · have hi : ¬ (k : Int) < (s.size : Int) := by omega
      obtain rfl : k = s.size := by omega
      go_wp2_with fail
      refine (Tryz.Builder_String_any w.heap.size w.heap.size (eb g s.size) _ hI hB.size).mono ?_
      rintro e w1 ⟨rfl, hb1⟩
      have hB1 := hB.trans hb1
      clear hI hb1 hB
      go_wp2_with fail
      go_ret
      exact ⟨rfl, hB1⟩

set_option maxRecDepth 100000 in
set_option maxHeartbeats 1000000 in
theorem lower1_big (s : ByteArray) (k b : Nat) (w : World) (hk : k < s.size) (hs : s.size ≤ 140737488351232) (h0 : Boxed w b 9 (.string s)) :
    Calls Tryz.prog 134 #[.int .i64 (k : Int), .pointer (some ⟨b, 0, none⟩)] w fun e w' => e = .returned (.string (lowB (bt s k))) ∧ Below w.heap.size w w' := by
  have c0 := h0.cell
  rw [bt_at hk]
  have he := fun w => sl_one hk w
  have hki : (k : Int) < (s.size : Int) := by omega
  by_cases hr : 65 ≤ s[k].toNat ∧ s[k].toNat ≤ 90
  · have h1 : (65 : Int) ≤ (s[k].toNat : Int) := by omega
    have h2 : (s[k].toNat : Int) ≤ 90 := by omega
    have hlo := low_in hr.1 hr.2
    have hrn := rune_low (s[k].toNat + 32) (by omega) (by omega)
    have hca : ((s[k].toNat + 32 : Nat) : Int) = (s[k].toNat : Int) - 65 + 97 := by omega
    rw [hca] at hrn
    have HLO := hide hlo
    clear hr hlo hca he
    go_enter Tryz.func134, Tryz.ntmps134
    go_wp2_with fail
    go_ret
    exact ⟨by rw [HLO.out]; rfl, Below.refl _ _⟩
  · have hlo := low_out hr
    have HLO := hide hlo
    clear hlo
    by_cases h1 : (65 : Int) ≤ (s[k].toNat : Int)
    · have h2 : ¬ (s[k].toNat : Int) ≤ 90 := by omega
      clear hr
      go_enter Tryz.func134, Tryz.ntmps134
      go_wp2_with fail
      go_ret
      exact ⟨by rw [HLO.out]; rfl, Below.refl _ _⟩
    · clear hr
      go_enter Tryz.func134, Tryz.ntmps134
      go_wp2_with fail
      go_ret
      exact ⟨by rw [HLO.out]; rfl, Below.refl _ _⟩

set_option maxRecDepth 100000 in
set_option maxHeartbeats 1000000 in
theorem lower_big (s : ByteArray) (w : World) (hs : s.size ≤ 140737488351232) :
    Calls Tryz.prog 87 #[.string s] w fun e w' => e = .returned (.string (lowV s)) ∧ Below w.heap.size w w' := by
  have hbx := Boxed.new w 9 (.string s)
  have hb0 : Below w.heap.size w (w.alloc (.cells #[.string s] 9)) := (Below.refl _ w).alloc (Nat.le_refl _) _
  have c0 := hbx.cell
  have ce := eachByte1_any s 134 (.pointer (some ⟨w.heap.size, 0, none⟩)) (fun k => lowB (bt s k)) (w.alloc (.cells #[.string s] 9)) hs (fun k => low_one _) (enters_of Tryz.func134 (by kernel_rfl) rfl)
    (fun k w' hk hb => lower1_big s k w.heap.size w' hk hs (boxed_below hbx hb hbx.lt))
  have CE := hide ce
  clear ce hbx
  go_enter Tryz.func87, Tryz.ntmps87
  go_wp2_with fail
  refine (CE.out).mono ?_
  rintro e w1 ⟨rfl, hb1⟩
  have hB := hb0.trans (hb1.mono hb0.size)
  clear hb1 CE c0
  go_wp2_with fail
  go_ret
  exact ⟨rfl, hB⟩

set_option maxRecDepth 100000 in
set_option maxHeartbeats 1000000 in
theorem iis_big (s t : ByteArray) (w : World) (hs : s.size ≤ 140737488351232) (ht : t.size ≤ 140737488351232) :
    Calls Tryz.prog 46 #[.string s, .string t] w fun e w' => e = .returned (.bool ((lowV s).toList == (lowV t).toList)) ∧ Below w.heap.size w w' := by
  have c1 := fun w => lower_big s w hs
  have c2 := fun w => lower_big t w ht
  generalize lowV s = A at *
  generalize lowV t = B at *
  go_enter Tryz.func46, Tryz.ntmps46
  go_wp2_with fail
  refine (c1 _).mono ?_
  rintro e w1 ⟨rfl, hb1⟩
  go_wp2_with fail
  refine (c2 _).mono ?_
  rintro e w2 ⟨rfl, hb2⟩
  have hB := hb1.trans (hb2.mono hb1.size)
  clear hb1 hb2
  go_wp2_with fail
  go_ret
  exact ⟨rfl, hB⟩

set_option maxRecDepth 100000 in
set_option maxHeartbeats 2000000 in
theorem rlower_big (s : ByteArray) (w : World) (hs : s.size ≤ 140737488351232) :
    Calls Tryz.prog 88 #[.string s] w fun e w' => e = .returned (.string (lowV s)) ∧ Below w.heap.size w w' := by
  have hg : ∀ k, ((fun k => lowB (bt s k)) k).size ≤ 1 := fun k => low_one _
  unfold lowV
  have hat : ∀ (k : Nat) (h : k < s.size), (fun k => lowB (bt s k)) k = lowB s[k] := fun k h => by show lowB (bt s k) = _; rw [bt_at h]
  generalize (fun k => lowB (bt s k)) = g at *
  have HAT := hide hat
  have HG := hide hg
  clear hat hg
  go_enter Tryz.func88, Tryz.ntmps88
  go_wp2_with fail
  go_loopw [3, 4] (fun o i wr => ∃ k : Nat, k ≤ s.size ∧ o = .string ⟨(eb g k).toArray⟩ ∧ i = .int .i64 (k : Int) ∧ Below w.heap.size w wr) (fun _ i _ => ((s.size : Int) - intOf i).toNat)
  case atStart => exact ⟨0, Nat.zero_le _, rfl, by go_num, Below.refl _ _⟩
  case round =>
    obtain ⟨k, hk, rfl, rfl, hB⟩ := hrel
    by_cases hlt : k < s.size
    · have hi : (k : Int) < (s.size : Int) := by omega
      have hz := eb_size1 HG.out k
      have hap := eb_app g k
      rw [HAT.out k hlt] at hap
      have hap2 : Hid ((⟨(eb g k).toArray⟩ : ByteArray) ++ lowB s[k] = ⟨(eb g (k + 1)).toArray⟩) := hap
      clear hap
      generalize hE : (⟨(eb g k).toArray⟩ : ByteArray) = E at *
      by_cases hr : 65 ≤ s[k].toNat ∧ s[k].toNat ≤ 90
      · have h1 : (65 : Int) ≤ (s[k].toNat : Int) := by omega
        have h2 : (s[k].toNat : Int) ≤ 90 := by omega
        have hlo := low_in hr.1 hr.2
        have hcv := conv1 wr ((s[k].toNat : Int) - 65 + 97)
        rw [show ((s[k].toNat : Int) - 65 + 97).toNat = s[k].toNat + 32 by omega, ← hlo] at hcv
        have hl1 := low_one s[k]
        generalize lowB s[k] = LB at *
        clear hlo hr hE
        have hB2 : Below w.heap.size w (wr.alloc (.cells #[.int .u8 ((s[k].toNat : Int) - 65 + 97)] 5)) := hB.alloc hB.size _
        go_wp2_with fail
        go_round
        case rel => exact ⟨k + 1, by omega, by rw [hap2.out], by go_num, hB2⟩
        case measure => simp [intOf]; omega
      · have hlo := low_out hr
        have hcv := conv1 wr (s[k].toNat : Int)
        rw [ofNat_back, ← hlo] at hcv
        have hl1 := low_one s[k]
        generalize lowB s[k] = LB at *
        have hB2 : Below w.heap.size w (wr.alloc (.cells #[.int .u8 (s[k].toNat : Int)] 5)) := hB.alloc hB.size _
        by_cases h1 : (65 : Int) ≤ (s[k].toNat : Int)
        · have h2 : ¬ (s[k].toNat : Int) ≤ 90 := by omega
          clear hlo hr hE
          go_wp2_with fail
          go_round
          case rel => exact ⟨k + 1, by omega, by rw [hap2.out], by go_num, hB2⟩
          case measure => simp [intOf]; omega
        · clear hlo hr hE
          go_wp2_with fail
          go_round
          case rel => exact ⟨k + 1, by omega, by rw [hap2.out], by go_num, hB2⟩
          case measure => simp [intOf]; omega
    · have hi : ¬ (k : Int) < (s.size : Int) := by omega
      obtain rfl : k = s.size := by omega
      go_wp2_with fail
      go_ret
      exact ⟨rfl, hB⟩

set_option maxRecDepth 100000 in
set_option maxHeartbeats 1000000 in
theorem ris4_big (s t : ByteArray) (w : World) (hs : s.size ≤ 140737488351232) (ht : t.size ≤ 140737488351232) :
    Calls Tryz.prog 47 #[.string s, .string t] w fun e w' => e = .returned (.bool ((lowV s).toList == (lowV t).toList)) ∧ Below w.heap.size w w' := by
  have c1 := fun w => rlower_big s w hs
  have c2 := fun w => rlower_big t w ht
  generalize lowV s = A at *
  generalize lowV t = B at *
  go_enter Tryz.func47, Tryz.ntmps47
  go_wp2_with fail
  refine (c1 _).mono ?_
  rintro e w1 ⟨rfl, hb1⟩
  go_wp2_with fail
  refine (c2 _).mono ?_
  rintro e w2 ⟨rfl, hb2⟩
  have hB := hb1.trans (hb2.mono hb1.size)
  clear hb1 hb2
  go_wp2_with fail
  go_ret
  exact ⟨rfl, hB⟩

end Go.Proofs.YtcjmmblkcdpgoaaGreatDoor

/- Keywords and signs, read of words. -/
namespace Go.Proofs.YtcjmmblkcdpgoaaGreatDoor
open Go.RowKit

/-- Two texts are the same keyword. -/
def isB (s t : ByteArray) : Bool := (lowV s).toList == (lowV t).toList
/-- The place of the first text that is asked for, or -1. -/
def idxP (p : ByteArray → Bool) : List ByteArray → Int
  | [] => -1
  | z :: r => if p z = true then 0 else if idxP p r < 0 then -1 else idxP p r + 1
theorem idxP_none {p : ByteArray → Bool} : ∀ {zs : List ByteArray}, (∀ i, i < zs.length → p (zs.getD i ByteArray.empty) = false) → idxP p zs = -1
  | [], _ => rfl
  | z :: r, h => by
    have h0 := h 0 (by simp)
    have ih := idxP_none (p := p) (zs := r) (fun i hi => by have := h (i + 1) (by simpa using hi); simpa using this)
    simp only [List.getD_cons_zero] at h0
    unfold idxP
    rw [if_neg (by rw [h0]; simp), if_pos (by rw [ih]; decide)]
theorem idxP_hit {p : ByteArray → Bool} : ∀ {zs : List ByteArray} {j : Nat}, (∀ i, i < j → p (zs.getD i ByteArray.empty) = false) → j < zs.length → p (zs.getD j ByteArray.empty) = true → idxP p zs = (j : Int)
  | [], j, _, hj, _ => absurd hj (by simp)
  | z :: r, 0, _, _, hp => by
    simp only [List.getD_cons_zero] at hp
    unfold idxP
    rw [if_pos hp]; rfl
  | z :: r, j + 1, h, hj, hp => by
    have h0 := h 0 (by omega)
    simp only [List.getD_cons_zero] at h0
    have ih := idxP_hit (p := p) (zs := r) (j := j) (fun i hi => by have := h (i + 1) (by omega); simpa using this) (by simpa using hj) (by simpa using hp)
    unfold idxP
    rw [if_neg (by rw [h0]; simp), if_neg (by rw [ih]; omega), ih]; simp
theorem idxP_bd (p : ByteArray → Bool) : ∀ zs : List ByteArray, -1 ≤ idxP p zs ∧ idxP p zs < zs.length
  | [] => by simp [idxP]
  | z :: r => by
    have ih := idxP_bd p r
    unfold idxP
    split
    · exact ⟨by decide, by simp⟩
    · split
      · exact ⟨by decide, by simp; omega⟩
      · simp; omega
theorem idxP_false {p : ByteArray → Bool} (zs : List ByteArray) (h : ∀ z, p z = false) : idxP p zs = -1 := idxP_none fun _ _ => h _
/-- The keyword that stands at a place, and the place behind it. -/
def kwP (l : List Tk) (at_ : Int) (z : ByteArray) : Bool := decide ((tkV l at_).1.1 = 1) && isB (tkV l at_).2.1 z
def keywV (l : List Tk) (at_ : Int) (zs : List ByteArray) : Int × Int := if idxP (kwP l at_) zs < 0 then (-1, at_) else (idxP (kwP l at_) zs, at_ + 1)
/-- A sign stands at a place. -/
def signV (l : List Tk) (at_ : Int) (s : ByteArray) : Bool := decide ((tkV l at_).1.1 = 7) && ((tkV l at_).2.1.toList == s.toList)
theorem tk_in {l : List Tk} {i : Int} (h : ¬ (tkV l i).1.1 = 8) : 0 ≤ i ∧ i < l.length := by
  unfold tkV at h
  rcases Int.lt_or_le i 0 with hn | hn
  · rw [if_pos hn] at h; exact absurd rfl h
  · refine ⟨hn, ?_⟩
    rcases Int.lt_or_le i l.length with hl | hl
    · exact hl
    · rw [if_neg (by omega), List.getD, List.getElem?_eq_none (by omega)] at h
      exact absurd rfl h
theorem TxAt.below {w w' : World} {b : Nat} {zs : List ByteArray} (h : TxAt w b zs) (hb : Below w.heap.size w w') (hl : b < w.heap.size) : TxAt w' b zs := fun j hj => (hb.cell (p := ⟨b, 0 + j, none⟩) hl).trans (h j hj)

set_option maxRecDepth 100000 in
set_option maxHeartbeats 2000000 in
theorem kwf_any (k at_ : Int) (tx nm s : ByteArray) (b : Nat) (w : World) (h : TkAt b k at_ tx nm w) (ht : tx.size ≤ 2000000) (hs : s.size ≤ 140737488351232) :
    Calls Tryz.prog 45 #[.string s, .pointer (some ⟨b, 0, none⟩)] w fun e w' => e = .returned (.bool (decide (k = 1) && isB tx s)) ∧ Below w.heap.size w w' := by
  have c0 := h.c0
  have c2 := h.c2
  have ci := iis_big tx s w (by omega) hs
  unfold isB
  generalize ((lowV tx).toList == (lowV s).toList) = q at *
  have CI := hide ci
  clear ci h
  rcases eqk k 1 with ⟨h1, h1b⟩ | ⟨h1, h1b⟩
  · subst h1
    go_enter Tryz.func45, Tryz.ntmps45
    go_wp2_with fail
    refine Calls.mono CI.out ?_
    rintro e w1 ⟨rfl, hb⟩
    go_wp2_with fail
    go_ret
    exact ⟨by simp, hb⟩
  · have hd : decide (k = 1) = false := by simp [h1]
    rw [hd]
    clear h1 hd CI
    go_enter Tryz.func45, Tryz.ntmps45
    go_wp2_with fail
    go_ret
    exact ⟨rfl, Below.refl _ _⟩

set_option maxRecDepth 100000 in
set_option maxHeartbeats 4000000 in
theorem indexFunc_any (zs : List ByteArray) (b n F : Nat) (c : Value) (p : ByteArray → Bool) (w : World) (ht : TxAt w b zs) (hlt : b < w.heap.size) (hn : n = zs.length) (hz : zs.length ≤ 1000)
    (eF : ∀ args w, (callFunc F args).run Tryz.prog w = .ok (.enter F args) w)
    (hc : ∀ (j : Nat) w', j < zs.length → Below w.heap.size w w' → Calls Tryz.prog F #[.string (zs.getD j ByteArray.empty), c] w' fun e w'' => e = .returned (.bool (p (zs.getD j ByteArray.empty))) ∧ Below w'.heap.size w' w'') :
    Calls Tryz.prog 44 #[.slice (some ⟨b, 0, none⟩) n n, .func (.func F) #[] #[c]] w fun e w' => e = .returned (.int .i64 (idxP p zs)) ∧ Below w.heap.size w w' := by
  subst hn
  have HC := hide hc
  have HT := hide ht
  have hb0 := hide (Below.refl w.heap.size w)
  clear hc ht
  go_enter Tryz.func44, Tryz.ntmps44
  go_wp2_with fail
  go_loopw [8] (fun i wr => ∃ k : Nat, k ≤ zs.length ∧ i = .int .i64 (k : Int) ∧ Hid (∀ i, i < k → p (zs.getD i ByteArray.empty) = false) ∧ Hid (Below w.heap.size w wr)) (fun i _ => ((zs.length : Int) - intOf i).toNat)
  case atStart => exact ⟨0, Nat.zero_le _, by go_num, hide (fun i hi => absurd hi (by omega)), hb0⟩
  case round =>
    clear hb0
    obtain ⟨k, hk, rfl, HN, HB⟩ := hrel
    by_cases hlk : k < zs.length
    · have hi : (k : Int) < (zs.length : Int) := by omega
      have hcell : wr.cell? ⟨b, k, none⟩ = some (.string (zs.getD k ByteArray.empty)) := by have := ((HB.out).cell (p := ⟨b, 0 + k, none⟩) hlt).trans ((HT.out) k hlk); rwa [Nat.zero_add] at this
      have cc := unhide HC k _ hlk HB.out
      cases hp : p (zs.getD k ByteArray.empty)
      · have HN2 : Hid (∀ i, i < k + 1 → p (zs.getD i ByteArray.empty) = false) := hide (fun i hi => by
          rcases Nat.lt_or_ge i k with h | h
          · exact (HN.out) i h
          · obtain rfl : i = k := by omega
            exact hp)
        rw [hp] at cc
        generalize zs.getD k ByteArray.empty = z at *
        have CC := hide cc
        clear cc hp HN
        go_wp2_with fail
        refine Calls.mono CC.out ?_
        rintro e w1 ⟨rfl, hb1⟩
        have HB1 := hide ((HB.out).trans (hb1.mono (HB.out).size))
        clear hb1 CC HB hcell
        go_wp2_with fail
        go_round
        case rel => exact ⟨k + 1, by omega, by go_num, HN2, HB1⟩
        case measure => simp [intOf]; omega
      · have HV := hide (idxP_hit HN.out hlk hp)
        rw [hp] at cc
        generalize zs.getD k ByteArray.empty = z at *
        have CC := hide cc
        clear cc hp HN
        go_wp2_with fail
        refine Calls.mono CC.out ?_
        rintro e w1 ⟨rfl, hb1⟩
        have HB1 := hide ((HB.out).trans (hb1.mono (HB.out).size))
        clear hb1 CC HB hcell
        go_wp2_with fail
        go_ret
        exact ⟨by rw [HV.out] <;> rfl, HB1.out⟩
    · have hi : ¬ (k : Int) < (zs.length : Int) := by omega
      obtain rfl : k = zs.length := by omega
      have HV := hide (idxP_none HN.out)
      go_wp2_with fail
      go_ret
      exact ⟨by rw [HV.out] <;> rfl, HB.out⟩

set_option maxRecDepth 100000 in
set_option maxHeartbeats 4000000 in
theorem keyword_any (l : List Tk) (at_ : Int) (zs : List ByteArray) (b n : Nat) (v : Value) (w : World) (h : Tks w v l) (hl : Short l) (ht : TxAt w b zs) (hlt : b < w.heap.size) (hn : n = zs.length) (hz : zs.length ≤ 1000) (hzs : ∀ j, j < zs.length → (zs.getD j ByteArray.empty).size ≤ 140737488351232) :
    Calls Tryz.prog 13 #[v, .int .i64 at_, .slice (some ⟨b, 0, none⟩) n n] w fun e w' => e = .returned (.tuple #[.int .i64 (keywV l at_ zs).1, .int .i64 (keywV l at_ zs).2]) ∧ Below w.heap.size w w' := by
  have cw := wordAt_any l at_ v w h hl.1
  have hsz := (hl.at at_).1
  have hkv : keywV l at_ zs = if idxP (kwP l at_) zs < 0 then (-1, at_) else (idxP (kwP l at_) zs, at_ + 1) := rfl
  have hin : ¬ idxP (kwP l at_) zs < 0 → 0 ≤ at_ ∧ at_ < l.length := fun h0 => tk_in (fun h8 => h0 (by
    rw [idxP_false zs (fun z => by unfold kwP; rw [h8]; rfl)]; decide))
  have hbd := idxP_bd (kwP l at_) zs
  have hll := hl.1
  obtain ⟨ao, m, cap, rfl⟩ : ∃ ao m cap, v = .slice ao m cap := by
    rcases h.val with ⟨_, ao, cap, h⟩ | ⟨b, off, cap, h, _⟩
    · exact ⟨_, _, _, h⟩
    · exact ⟨_, _, _, h⟩
  obtain ⟨k, a, tx, nm, htk⟩ : ∃ k a tx nm, tkV l at_ = ((k, a), tx, nm) := ⟨_, _, _, _, rfl⟩
  have hp : kwP l at_ = fun z => decide (k = 1) && isB tx z := by funext z; unfold kwP; rw [htk]
  rw [htk] at cw hsz
  have ci : ∀ w1, Below w.heap.size w w1 → Calls Tryz.prog 44 #[.slice (some ⟨b, 0, none⟩) n n, .func (.func 45) #[] #[.pointer (some ⟨w1.heap.size, 0, none⟩)]] (w1.alloc (.cells #[.int .i64 k, .int .i64 a, .string tx, .string nm] 25)) fun e w' => e = .returned (.int .i64 (idxP (kwP l at_) zs)) ∧ Below (w1.alloc (.cells #[.int .i64 k, .int .i64 a, .string tx, .string nm] 25)).heap.size (w1.alloc (.cells #[.int .i64 k, .int .i64 a, .string tx, .string nm] 25)) w' := by
    intro w1 hb
    have hb2 := hb.alloc hb.size (.cells #[.int .i64 k, .int .i64 a, .string tx, .string nm] 25)
    have hT := TkAt.new w1 k a tx nm
    refine indexFunc_any zs b n 45 (.pointer (some ⟨w1.heap.size, 0, none⟩)) (kwP l at_) _ (ht.below hb2 hlt) (Nat.lt_of_lt_of_le hlt hb2.size) hn hz (enters_of Tryz.func45 (by kernel_rfl) rfl) (fun j w' hj hb' => ?_)
    rw [hp]
    exact kwf_any k a tx nm _ w1.heap.size w' (hT.below hb' hT.lt) hsz (hzs j hj)
  generalize idxP (kwP l at_) zs = J at *
  have CW := hide cw
  have CI := hide ci
  have HKV := hide hkv
  have HIN := hide hin
  unfold tkW tkA at CW
  clear cw ci hkv hin h ht hl htk hp hsz hz hzs hbd
  clear hn
  go_enter Tryz.func13, Tryz.ntmps13
  go_wp2_with fail
  refine Calls.mono CW.out ?_
  rintro e w1 ⟨rfl, hb1⟩
  have c2 := unhide CI w1 hb1
  have HB1 := hide (hb1.alloc hb1.size (.cells #[.int .i64 k, .int .i64 a, .string tx, .string nm] 25))
  have C2 := hide c2
  clear CI c2 hb1 CW
  go_wp2_with fail
  refine Calls.mono C2.out ?_
  rintro e w2 ⟨rfl, hb2⟩
  have HB2 := hide ((HB1.out).trans (hb2.mono (HB1.out).size))
  clear hb2 C2 HB1
  by_cases hj : J < 0
  · have hv := HKV.out
    rw [if_pos hj] at hv
    have HV := hide hv
    clear hv HKV HIN
    go_wp2_with fail
    go_ret2
    exact ⟨by rw [HV.out] <;> rfl, HB2.out⟩
  · have hv := HKV.out
    rw [if_neg hj] at hv
    have hi := (HIN.out) (by omega)
    have hi1 : at_ + 1 < 9223372036854775807 := by omega
    have hi0 : 0 ≤ at_ := hi.1
    have HV := hide hv
    clear hv HKV HIN hi
    go_wp2_with fail
    go_ret2
    exact ⟨by rw [HV.out] <;> rfl, HB2.out⟩

set_option maxRecDepth 100000 in
set_option maxHeartbeats 4000000 in
theorem sign_any (l : List Tk) (at_ : Int) (s : ByteArray) (v : Value) (w : World) (h : Tks w v l) (hl : Short l) :
    Calls Tryz.prog 15 #[v, .int .i64 at_, .string s] w fun e w' => e = .returned (.bool (signV l at_ s)) ∧ Below w.heap.size w w' := by
  have cw := wordAt_any l at_ v w h hl.1
  obtain ⟨ao, m, cap, rfl⟩ : ∃ ao m cap, v = .slice ao m cap := by
    rcases h.val with ⟨_, ao, cap, h⟩ | ⟨b, off, cap, h, _⟩
    · exact ⟨_, _, _, h⟩
    · exact ⟨_, _, _, h⟩
  unfold signV
  obtain ⟨k, a, tx, nm, htk⟩ : ∃ k a tx nm, tkV l at_ = ((k, a), tx, nm) := ⟨_, _, _, _, rfl⟩
  rw [htk] at cw ⊢
  have CW := hide cw
  unfold tkW tkA at CW
  clear cw h hl htk
  rcases eqk k 7 with ⟨h1, h1b⟩ | ⟨h1, h1b⟩
  · subst h1
    go_enter Tryz.func15, Tryz.ntmps15
    go_wp2_with fail
    refine Calls.mono CW.out ?_
    rintro e w1 ⟨rfl, hb1⟩
    have hT := TkAt.new w1 7 a tx nm
    have t0 := hT.c0
    have t2 := hT.c2
    have HB1 := hide (hb1.alloc hb1.size (.cells #[.int .i64 7, .int .i64 a, .string tx, .string nm] 25))
    clear hb1 CW hT
    go_wp2_with fail
    go_ret
    exact ⟨by simp, HB1.out⟩
  · have hd : decide (k = 7) = false := by simp [h1]
    rw [hd]
    go_enter Tryz.func15, Tryz.ntmps15
    go_wp2_with fail
    refine Calls.mono CW.out ?_
    rintro e w1 ⟨rfl, hb1⟩
    have hT := TkAt.new w1 k a tx nm
    have t0 := hT.c0
    have t2 := hT.c2
    have HB1 := hide (hb1.alloc hb1.size (.cells #[.int .i64 k, .int .i64 a, .string tx, .string nm] 25))
    clear hb1 CW hT h1 hd
    go_wp2_with fail
    go_ret
    exact ⟨by simp, HB1.out⟩

end Go.Proofs.YtcjmmblkcdpgoaaGreatDoor

/- A whole number, read of words. -/
namespace Go.Proofs.YtcjmmblkcdpgoaaGreatDoor
open Go.RowKit

/-- The whole number at a place, the place behind it, and the error. -/
def intV (l : List Tk) (at_ : Int) : Int × Int × Int :=
  if ¬ (tkV l at_).1.1 = 3 then (0, at_, 50) else if deeB (tkV l at_).2.2 = true then (0, at_, 50)
  else if (scalV (tkV l at_).2.2 1).2 = 0 then ((scalV (tkV l at_).2.2 1).1, at_ + 1, 0) else (0, at_, (scalV (tkV l at_).2.2 1).2)

set_option maxRecDepth 100000 in
set_option maxHeartbeats 4000000 in
theorem integer_any (l : List Tk) (at_ : Int) (v : Value) (w : World) (h : Tks w v l) (hl : Short l) :
    Calls Tryz.prog 11 #[v, .int .i64 at_] w fun e w' => e = .returned (.tuple #[.int .i64 (intV l at_).1, .int .i64 (intV l at_).2.1, .int .i64 (intV l at_).2.2]) ∧ Below w.heap.size w w' := by
  have cw := wordAt_any l at_ v w h hl.1
  have hsz := (hl.at at_).2
  have hll := hl.1
  have hiv : intV l at_ = if ¬ (tkV l at_).1.1 = 3 then (0, at_, 50) else if deeB (tkV l at_).2.2 = true then (0, at_, 50) else if (scalV (tkV l at_).2.2 1).2 = 0 then ((scalV (tkV l at_).2.2 1).1, at_ + 1, 0) else (0, at_, (scalV (tkV l at_).2.2 1).2) := rfl
  have hin : (tkV l at_).1.1 = 3 → 0 ≤ at_ ∧ at_ < l.length := fun h3 => tk_in (by rw [h3]; decide)
  obtain ⟨ao, m, cap, rfl⟩ : ∃ ao m cap, v = .slice ao m cap := by
    rcases h.val with ⟨_, ao, cap, h⟩ | ⟨b, off, cap, h, _⟩
    · exact ⟨_, _, _, h⟩
    · exact ⟨_, _, _, h⟩
  obtain ⟨k, a, tx, nm, htk⟩ : ∃ k a tx nm, tkV l at_ = ((k, a), tx, nm) := ⟨_, _, _, _, rfl⟩
  rw [htk] at cw hsz hiv hin
  simp only at hsz hiv hin
  have cd := fun w => containsDEE_any nm w hsz
  have cs := fun w => scaled_any nm 1 w (by omega)
  generalize deeB nm = D at *
  generalize (scalV nm 1).1 = n at *
  generalize (scalV nm 1).2 = er at *
  have CW := hide cw
  have CD := hide cd
  have CS := hide cs
  have HIV := hide hiv
  unfold tkW tkA at CW
  clear cw h hl htk hiv cd cs
  rcases eqk k 3 with ⟨h1, h1b⟩ | ⟨h1, h1b⟩
  · subst h1
    have hi := hin rfl
    have hi1 : at_ + 1 < 9223372036854775807 := by omega
    have hi0 : 0 ≤ at_ := hi.1
    clear hin hi
    go_enter Tryz.func11, Tryz.ntmps11
    go_wp2_with fail
    refine Calls.mono CW.out ?_
    rintro e w1 ⟨rfl, hb1⟩
    have hT := TkAt.new w1 3 a tx nm
    have t0 := hT.c0
    have t3 := hT.c3
    have HT := hide hT
    have HB1 := hide (hb1.alloc hb1.size (.cells #[.int .i64 3, .int .i64 a, .string tx, .string nm] 25))
    clear hb1 CW hT
    go_wp2_with fail
    refine Calls.mono (unhide CD _) ?_
    rintro e w2 ⟨rfl, hb2⟩
    have hT2 := (HT.out).below hb2 (HT.out).lt
    have u0 := hT2.c0
    have u3 := hT2.c3
    have HB2 := hide ((HB1.out).trans (hb2.mono (HB1.out).size))
    clear hb2 HB1 HT t0 t3 hT2 CD
    cases D
    · have hv := HIV.out
      rw [if_neg (by simp), if_neg (by simp)] at hv
      have HV := hide hv
      clear hv HIV
      go_wp2_with fail
      refine Calls.mono (unhide CS _) ?_
      rintro e w3 ⟨rfl, hb3⟩
      have HB3 := hide ((HB2.out).trans (hb3.mono (HB2.out).size))
      clear hb3 HB2 CS u0 u3
      rcases eqk er 0 with ⟨h0, h0b⟩ | ⟨h0, h0b⟩
      · subst h0
        have hv := HV.out
        rw [if_pos rfl] at hv
        have HV2 := hide hv
        clear hv HV h0b
        go_wp2_with fail
        go_ret3
        exact ⟨by rw [HV2.out] <;> rfl, HB3.out⟩
      · have hv := HV.out
        rw [if_neg h0] at hv
        have HV2 := hide hv
        have hn0 : (er != 0) = true := by rw [bne, h0b]; rfl
        clear hv HV h0b h0
        go_wp2_with fail
        go_ret3
        exact ⟨by rw [HV2.out] <;> rfl, HB3.out⟩
    · have hv := HIV.out
      rw [if_neg (by simp), if_pos rfl] at hv
      have HV := hide hv
      clear hv HIV
      go_wp2_with fail
      go_ret3
      exact ⟨by rw [HV.out] <;> rfl, HB2.out⟩
  · have hv := HIV.out
    rw [if_pos h1] at hv
    have HV := hide hv
    have hn1 : (k != 3) = true := by rw [bne, h1b]; rfl
    clear hv HIV hin h1 h1b CD CS
    go_enter Tryz.func11, Tryz.ntmps11
    go_wp2_with fail
    refine Calls.mono CW.out ?_
    rintro e w1 ⟨rfl, hb1⟩
    have hT := TkAt.new w1 k a tx nm
    have t0 := hT.c0
    have HB1 := hide (hb1.alloc hb1.size (.cells #[.int .i64 k, .int .i64 a, .string tx, .string nm] 25))
    clear hb1 CW hT
    go_wp2_with fail
    go_ret3
    exact ⟨by rw [HV.out] <;> rfl, HB1.out⟩

end Go.Proofs.YtcjmmblkcdpgoaaGreatDoor

/- The document's own reading of words. -/
namespace Go.Proofs.YtcjmmblkcdpgoaaGreatDoor
open Go.RowKit

set_option maxRecDepth 100000 in
set_option maxHeartbeats 4000000 in
theorem rword_any (l : List ((Int × Int) × ByteArray × ByteArray)) (at_ : Int) (v : Value) (w : World) (h : Tks w v l) (hl : l.length ≤ 1000000) :
    Calls Tryz.prog 38 #[v, .int .i64 at_] w fun e w' => e = .returned (tkW (tkV l at_)) ∧ Below w.heap.size w w' := by
  have hz := TkAt.new w 0 0 ⟨#[]⟩ ⟨#[]⟩
  have hb0 : Below w.heap.size w (w.alloc (.cells #[.int .i64 0, .int .i64 0, .string ⟨#[]⟩, .string ⟨#[]⟩] 25)) := (Below.refl _ w).alloc (Nat.le_refl _) _
  have z0 := hz.c0
  have z1 := hz.c1
  have z2 := hz.c2
  have z3 := hz.c3
  have zz := hz.z
  have HB := hide hb0
  by_cases hn : at_ < 0
  · have hv : tkV l at_ = ((8, 0), ⟨#[]⟩, ⟨#[]⟩) := by unfold tkV; rw [if_pos hn]
    rw [hv]
    obtain ⟨ao, n, cap, rfl⟩ : ∃ ao n cap, v = .slice ao n cap := by
      rcases h.val with ⟨_, ao, cap, h⟩ | ⟨b, off, cap, h, _⟩
      · exact ⟨_, _, _, h⟩
      · exact ⟨_, _, _, h⟩
    clear h hv hz hb0
    go_enter Tryz.func38, Tryz.ntmps38
    go_upto_region 1 with fail
    generalize w.alloc (.cells #[.int .i64 0, .int .i64 0, .string ⟨#[]⟩, .string ⟨#[]⟩] 25) = w3 at *
    go_wp2_with fail
    refine bodyPost_ret (v := tkW ((8, 0), ⟨#[]⟩, ⟨#[]⟩)) (by simp [results, Tryz.results38, go_sem, z0, z1, z2, z3, tkW, tkA]) rfl ⟨rfl, below_four HB.out (Nat.le_refl _) _ _ _ _⟩
  · obtain ⟨i, rfl⟩ := Int.eq_ofNat_of_zero_le (show 0 ≤ at_ by omega)
    by_cases hi : i < l.length
    · obtain ⟨x, hx⟩ : ∃ x, l[i]? = some x := ⟨_, List.getElem?_eq_getElem hi⟩
      have hv : tkV l (i : Int) = x := by unfold tkV; rw [if_neg hn]; simp [List.getD, hx]
      rw [hv]
      rcases h.val with ⟨rfl, _⟩ | ⟨b, off, cap, rfl, hlt, hc⟩
      · simp at hi
      obtain ⟨a0, a1, a2, a3⟩ := hc i x hx
      have e0 := (hb0.cell (p := ⟨b, _, none⟩) hlt).trans a0
      have e1 := (hb0.cell (p := ⟨b, _, none⟩) hlt).trans a1
      have e2 := (hb0.cell (p := ⟨b, _, none⟩) hlt).trans a2
      have e3 := (hb0.cell (p := ⟨b, _, none⟩) hlt).trans a3
      have hii : (i : Int) < (l.length : Int) := by omega
      have hne : ¬ b = w.heap.size := by omega
      generalize l.length = n at *
      clear h hv hz hb0 hc hx a0 a1 a2 a3
      go_enter Tryz.func38, Tryz.ntmps38
      go_upto_region 1 with fail
      generalize w.alloc (.cells #[.int .i64 0, .int .i64 0, .string ⟨#[]⟩, .string ⟨#[]⟩] 25) = w3 at *
      go_wp2_with fail
      refine bodyPost_ret (v := tkW x) (by simp [results, Tryz.results38, go_sem, z0, z1, z2, z3, tkW, tkA]) rfl ⟨rfl, below_four HB.out (Nat.le_refl _) _ _ _ _⟩
    · have hv : tkV l (i : Int) = ((8, 0), ⟨#[]⟩, ⟨#[]⟩) := by unfold tkV; rw [if_neg hn]; simp [List.getD, hi]
      rw [hv]
      obtain ⟨ao, cap, rfl⟩ : ∃ ao cap, v = .slice ao l.length cap := by
        rcases h.val with ⟨h0, ao, cap, h⟩ | ⟨b, off, cap, h, _⟩
        · exact ⟨_, _, by rw [h0]; exact h⟩
        · exact ⟨_, _, h⟩
      have hii : ¬ (i : Int) < (l.length : Int) := by omega
      generalize l.length = n at *
      clear h hv hz hb0
      go_enter Tryz.func38, Tryz.ntmps38
      go_upto_region 1 with fail
      generalize w.alloc (.cells #[.int .i64 0, .int .i64 0, .string ⟨#[]⟩, .string ⟨#[]⟩] 25) = w3 at *
      go_wp2_with fail
      refine bodyPost_ret (v := tkW ((8, 0), ⟨#[]⟩, ⟨#[]⟩)) (by simp [results, Tryz.results38, go_sem, z0, z1, z2, z3, tkW, tkA]) rfl ⟨rfl, below_four HB.out (Nat.le_refl _) _ _ _ _⟩

/-- A text is one of some. -/
theorem any_none {p : ByteArray → Bool} : ∀ {zs : List ByteArray}, (∀ i, i < zs.length → p (zs.getD i ByteArray.empty) = false) → zs.any p = false
  | [], _ => rfl
  | z :: r, h => by
    have h0 := h 0 (by simp)
    have ih := any_none (p := p) (zs := r) (fun i hi => by have := h (i + 1) (by simpa using hi); simpa using this)
    simp only [List.getD_cons_zero] at h0
    simp [h0, ih]
theorem any_hit {p : ByteArray → Bool} {zs : List ByteArray} {j : Nat} (hj : j < zs.length) (hp : p (zs.getD j ByteArray.empty) = true) : zs.any p = true := by
  rw [List.any_eq_true]
  refine ⟨zs.getD j ByteArray.empty, ?_, hp⟩
  rw [List.getD, List.getElem?_eq_getElem hj]
  exact List.getElem_mem hj

set_option maxRecDepth 100000 in
set_option maxHeartbeats 4000000 in
theorem rany5_any (s : ByteArray) (zs : List ByteArray) (b n : Nat) (w : World) (ht : TxAt w b zs) (hlt : b < w.heap.size) (hn : n = zs.length) (hz : zs.length ≤ 1000) (hs : s.size ≤ 2000000) (hzs : ∀ j, j < zs.length → (zs.getD j ByteArray.empty).size ≤ 140737488351232) :
    Calls Tryz.prog 78 #[.string s, .slice (some ⟨b, 0, none⟩) n n] w fun e w' => e = .returned (.bool (zs.any (isB s))) ∧ Below w.heap.size w w' := by
  subst hn
  have hc : ∀ (j : Nat) w', j < zs.length → Calls Tryz.prog 47 #[.string s, .string (zs.getD j ByteArray.empty)] w' fun e w'' => e = .returned (.bool (isB s (zs.getD j ByteArray.empty))) ∧ Below w'.heap.size w' w'' := fun j w' hj => ris4_big s _ w' (by omega) (hzs j hj)
  have HC := hide hc
  have HT := hide ht
  have hb0 := hide (Below.refl w.heap.size w)
  clear hc ht hzs
  go_enter Tryz.func78, Tryz.ntmps78
  go_wp2_with fail
  go_loopw [5] (fun i wr => ∃ k : Nat, k ≤ zs.length ∧ i = .int .i64 (k : Int) ∧ Hid (∀ i, i < k → isB s (zs.getD i ByteArray.empty) = false) ∧ Hid (Below w.heap.size w wr)) (fun i _ => ((zs.length : Int) - intOf i).toNat)
  case atStart => exact ⟨0, Nat.zero_le _, by go_num, hide (fun i hi => absurd hi (by omega)), hb0⟩
  case round =>
    clear hb0
    obtain ⟨k, hk, rfl, HN, HB⟩ := hrel
    by_cases hlk : k < zs.length
    · have hi : (k : Int) < (zs.length : Int) := by omega
      have hcell : wr.cell? ⟨b, k, none⟩ = some (.string (zs.getD k ByteArray.empty)) := by
        have := ((HB.out).cell (p := ⟨b, 0 + k, none⟩) hlt).trans ((HT.out) k hlk)
        rwa [Nat.zero_add] at this
      have cc := unhide HC k wr hlk
      cases hp : isB s (zs.getD k ByteArray.empty)
      · have HN2 : Hid (∀ i, i < k + 1 → isB s (zs.getD i ByteArray.empty) = false) := hide (fun i hi => by
          rcases Nat.lt_or_ge i k with h | h
          · exact (HN.out) i h
          · obtain rfl : i = k := by omega
            exact hp)
        rw [hp] at cc
        generalize zs.getD k ByteArray.empty = z at *
        have CC := hide cc
        clear cc hp HN
        go_wp2_with fail
        refine Calls.mono CC.out ?_
        rintro e w1 ⟨rfl, hb1⟩
        have HB1 := hide ((HB.out).trans (hb1.mono (HB.out).size))
        clear hb1 CC HB hcell
        go_wp2_with fail
        go_round
        case rel => exact ⟨k + 1, by omega, by go_num, HN2, HB1⟩
        case measure => simp [intOf]; omega
      · have HV := hide (any_hit (p := isB s) hlk hp)
        rw [hp] at cc
        generalize zs.getD k ByteArray.empty = z at *
        have CC := hide cc
        clear cc hp HN
        go_wp2_with fail
        refine Calls.mono CC.out ?_
        rintro e w1 ⟨rfl, hb1⟩
        have HB1 := hide ((HB.out).trans (hb1.mono (HB.out).size))
        clear hb1 CC HB hcell
        go_wp2_with fail
        go_ret
        exact ⟨by rw [HV.out] <;> rfl, HB1.out⟩
    · have hi : ¬ (k : Int) < (zs.length : Int) := by omega
      obtain rfl : k = zs.length := by omega
      have HV := hide (any_none (p := isB s) HN.out)
      go_wp2_with fail
      go_ret
      exact ⟨by rw [HV.out] <;> rfl, HB.out⟩

/-- The document's own way to tell a number that is 0. -/
def noughtL : List UInt8 → Bool
  | [] => true
  | c :: r => if c == 101 || c == 69 then true else if c == 43 || c == 45 || c == 46 || c == 48 then noughtL r else false
theorem noughtL_is : ∀ l : List UInt8, noughtL l = ((l.takeWhile fun c => !(c == 101 || c == 69)).all fun c => c == 43 || c == 45 || c == 46 || c == 48)
  | [] => rfl
  | c :: r => by
    have ih := noughtL_is r
    unfold noughtL
    cases h1 : (c == 101 || c == 69)
    · cases h2 : (c == 43 || c == 45 || c == 46 || c == 48)
      · rw [List.takeWhile_cons, h1]; simp [h2]
      · rw [List.takeWhile_cons, h1]; simp [h2, ih]
    · rw [List.takeWhile_cons, h1]; simp
theorem eq8 (c : UInt8) (n : Nat) (hn : n < 256) : (c == UInt8.ofNat n) = decide ((c.toNat : Int) = (n : Int)) := by
  rw [Bool.eq_iff_iff, beq_iff_eq, decide_eq_true_iff]
  constructor
  · intro h; subst h; simp; omega
  · intro h
    apply UInt8.toNat_inj.1
    simp
    omega

set_option maxRecDepth 100000 in
set_option maxHeartbeats 4000000 in
theorem rnought5_any (s : ByteArray) (w : World) (hs : s.size ≤ 2000000) : Calls Tryz.prog 79 #[.string s] w fun e w' => e = .returned (.bool (nought s)) ∧ w' = w := by
  have hno : nought s = noughtL (s.data.toList.drop 0) := by rw [noughtL_is]; rfl
  go_enter Tryz.func79, Tryz.ntmps79
  go_wp2_with fail
  go_loopw [3] (fun i wr => ∃ k : Nat, k ≤ s.size ∧ i = .int .i64 (k : Int) ∧ Hid (nought s = noughtL (s.data.toList.drop k)) ∧ w = wr) (fun i _ => ((s.size : Int) - intOf i).toNat)
  case atStart => exact ⟨0, Nat.zero_le _, by go_num, hide hno, rfl⟩
  case round =>
    clear hno
    obtain ⟨k, hk, rfl, HN, rfl⟩ := hrel
    by_cases hlt : k < s.size
    · have hi : (k : Int) < (s.size : Int) := by omega
      have hdr : s.data.toList.drop k = s[k] :: s.data.toList.drop (k + 1) := by
        have := List.drop_eq_getElem_cons (l := s.data.toList) (i := k) (by simpa using hlt)
        rw [this]; congr 1
      have hn := HN.out
      rw [hdr] at hn
      unfold noughtL at hn
      have e1 : (s[k] == 101) = decide ((s[k].toNat : Int) = 101) := eq8 s[k] 101 (by decide)
      have e2 : (s[k] == 69) = decide ((s[k].toNat : Int) = 69) := eq8 s[k] 69 (by decide)
      have e3 : (s[k] == 43) = decide ((s[k].toNat : Int) = 43) := eq8 s[k] 43 (by decide)
      have e4 : (s[k] == 45) = decide ((s[k].toNat : Int) = 45) := eq8 s[k] 45 (by decide)
      have e5 : (s[k] == 46) = decide ((s[k].toNat : Int) = 46) := eq8 s[k] 46 (by decide)
      have e6 : (s[k] == 48) = decide ((s[k].toNat : Int) = 48) := eq8 s[k] 48 (by decide)
      rw [e1, e2, e3, e4, e5, e6] at hn
      clear e1 e2 e3 e4 e5 e6 hdr HN
      rcases eqb (s[k].toNat : Int) 101 with ⟨h0, h0b⟩ | ⟨h0, h0b⟩
      · have hv : nought s = true := by rw [hn]; simp [h0]
        have HV := hide hv
        clear hv hn
        go_wp2_with fail
        go_ret
        exact ⟨by rw [HV.out]; rfl, rfl⟩
      · rcases eqb (s[k].toNat : Int) 69 with ⟨h1, h1b⟩ | ⟨h1, h1b⟩
        · have hv : nought s = true := by rw [hn]; simp [h1]
          have HV := hide hv
          clear hv hn
          go_wp2_with fail
          go_ret
          exact ⟨by rw [HV.out]; rfl, rfl⟩
        · rcases eqb (s[k].toNat : Int) 43 with ⟨h2, h2b⟩ | ⟨h2, h2b⟩
          · have n2 : ((s[k].toNat : Int) != 43) = false := by rw [bne, h2b]; rfl
            have hv : nought s = noughtL (s.data.toList.drop (k + 1)) := by rw [hn]; simp [h2]
            have HV := hide hv
            clear hv hn
            go_wp2_with fail
            go_round
            case rel => exact ⟨k + 1, by omega, by go_num, HV, trivial⟩
            case measure => simp [intOf]; omega
          · rcases eqb (s[k].toNat : Int) 45 with ⟨h3, h3b⟩ | ⟨h3, h3b⟩
            · have n2 : ((s[k].toNat : Int) != 43) = true := by rw [bne, h2b]; rfl
              have n3 : ((s[k].toNat : Int) != 45) = false := by rw [bne, h3b]; rfl
              have hv : nought s = noughtL (s.data.toList.drop (k + 1)) := by rw [hn]; simp [h3]
              have HV := hide hv
              clear hv hn
              go_wp2_with fail
              go_round
              case rel => exact ⟨k + 1, by omega, by go_num, HV, trivial⟩
              case measure => simp [intOf]; omega
            · rcases eqb (s[k].toNat : Int) 46 with ⟨h4, h4b⟩ | ⟨h4, h4b⟩
              · have n2 : ((s[k].toNat : Int) != 43) = true := by rw [bne, h2b]; rfl
                have n3 : ((s[k].toNat : Int) != 45) = true := by rw [bne, h3b]; rfl
                have n4 : ((s[k].toNat : Int) != 46) = false := by rw [bne, h4b]; rfl
                have hv : nought s = noughtL (s.data.toList.drop (k + 1)) := by rw [hn]; simp [h4]
                have HV := hide hv
                clear hv hn
                go_wp2_with fail
                go_round
                case rel => exact ⟨k + 1, by omega, by go_num, HV, trivial⟩
                case measure => simp [intOf]; omega
              · rcases eqb (s[k].toNat : Int) 48 with ⟨h5, h5b⟩ | ⟨h5, h5b⟩
                · have n2 : ((s[k].toNat : Int) != 43) = true := by rw [bne, h2b]; rfl
                  have n3 : ((s[k].toNat : Int) != 45) = true := by rw [bne, h3b]; rfl
                  have n4 : ((s[k].toNat : Int) != 46) = true := by rw [bne, h4b]; rfl
                  have n5 : ((s[k].toNat : Int) != 48) = false := by rw [bne, h5b]; rfl
                  have hv : nought s = noughtL (s.data.toList.drop (k + 1)) := by rw [hn]; simp [h5]
                  have HV := hide hv
                  clear hv hn
                  go_wp2_with fail
                  go_round
                  case rel => exact ⟨k + 1, by omega, by go_num, HV, trivial⟩
                  case measure => simp [intOf]; omega
                · have n2 : ((s[k].toNat : Int) != 43) = true := by rw [bne, h2b]; rfl
                  have n3 : ((s[k].toNat : Int) != 45) = true := by rw [bne, h3b]; rfl
                  have n4 : ((s[k].toNat : Int) != 46) = true := by rw [bne, h4b]; rfl
                  have n5 : ((s[k].toNat : Int) != 48) = true := by rw [bne, h5b]; rfl
                  have hv : nought s = false := by rw [hn]; simp [h0, h1, h2, h3, h4, h5]
                  have HV := hide hv
                  clear hv hn
                  go_wp2_with fail
                  go_ret
                  exact ⟨by rw [HV.out]; rfl, rfl⟩
    · have hi : ¬ (k : Int) < (s.size : Int) := by omega
      obtain rfl : k = s.size := by omega
      have hn := HN.out
      rw [List.drop_eq_nil_of_le (by simp)] at hn
      have HV := hide hn
      clear hn HN
      go_wp2_with fail
      go_ret
      exact ⟨by rw [HV.out]; rfl, rfl⟩

end Go.Proofs.YtcjmmblkcdpgoaaGreatDoor

/- The document's own words that mean something else in CSS, and kinds of sizes. -/
namespace Go.Proofs.YtcjmmblkcdpgoaaGreatDoor
open Go.RowKit

theorem low_dims : ∀ z ∈ dimsF, lowV z = z := by decide +kernel
theorem low_funcs : ∀ z ∈ funcsF, lowV z = z := by decide +kernel
theorem low_idents : ∀ z ∈ identsF, lowV z = z := by decide +kernel
theorem size_getD {zs : List ByteArray} (h : ∀ z ∈ zs, z.size ≤ 2000000) : ∀ j, j < zs.length → (zs.getD j ByteArray.empty).size ≤ 140737488351232 := fun j hj => by
  rw [List.getD, List.getElem?_eq_getElem hj]
  exact Nat.le_trans (h _ (List.getElem_mem hj)) (by decide)
theorem sz_dims : ∀ z ∈ dimsF, z.size ≤ 2000000 := by decide +kernel
theorem sz_funcs : ∀ z ∈ funcsF, z.size ≤ 2000000 := by decide +kernel
theorem sz_idents : ∀ z ∈ identsF, z.size ≤ 2000000 := by decide +kernel
theorem toList_inj {a b : ByteArray} : (a.toList == b.toList) = decide (a = b) := by
  rw [Bool.eq_iff_iff, beq_iff_eq, decide_eq_true_iff, ByteArray.toList_eq, ByteArray.toList_eq]
  exact ⟨fun h => ba_ext' h, fun h => by rw [h]⟩
theorem any_lit {tx : ByteArray} {zs : List ByteArray} (h : ∀ z ∈ zs, lowV z = z) : zs.any (isB tx) = Lib.containsS zs (lowV tx) := by
  rw [Bool.eq_iff_iff, List.any_eq_true, Lib.containsS_iff]
  constructor
  · rintro ⟨z, hz, hb⟩
    unfold isB at hb
    rw [toList_inj, decide_eq_true_iff, h z hz] at hb
    rw [hb]; exact hz
  · intro hm
    refine ⟨lowV tx, hm, ?_⟩
    unfold isB
    rw [toList_inj, decide_eq_true_iff, h _ hm]

set_option maxRecDepth 100000 in
set_option maxHeartbeats 4000000 in
theorem rfeature_any (k at_ : Int) (tx nm : ByteArray) (w : World) (hs : tx.size ≤ 2000000) :
    Calls Tryz.prog 39 #[tkA k at_ tx nm] w fun e w' => e = .returned (.bool (foreignB k (lowV tx))) ∧ Below w.heap.size w w' := by
  have hT := TkAt.new w k at_ tx nm
  have hB := (Below.refl _ w).alloc (Nat.le_refl _) (.cells #[.int .i64 k, .int .i64 at_, .string tx, .string nm] 25)
  have t0 := hT.c0
  have t2 := hT.c2
  have hlt := hT.lt
  have HB := hide hB
  unfold tkA
  rcases eqk k 5 with ⟨h5, h5b⟩ | ⟨h5, h5b⟩
  · subst h5
    have hv : foreignB 5 (lowV tx) = dimsF.any (isB tx) := by unfold foreignB; rw [any_lit low_dims]; simp
    have ca := rany5_any tx dimsF (w.heap.size + 1) 14 ((w.alloc (.cells #[.int .i64 5, .int .i64 at_, .string tx, .string nm] 25)).alloc (.cells (dimsF.map Value.string).toArray 9)) (txAt_at _ 9 dimsF _ (by simp)) (by simp) rfl (by decide) hs (size_getD sz_dims)
    rw [← hv] at ca
    generalize foreignB 5 (lowV tx) = q at *
    have CA := hide ca
    have HB2 := hide (hB.alloc (by simp) (.cells (dimsF.map Value.string).toArray 9))
    clear ca hB hT hv
    go_enter Tryz.func39, Tryz.ntmps39
    go_wp2_with fail
    refine Calls.mono CA.out ?_
    rintro e w1 ⟨rfl, hb⟩
    have hB2 := (HB2.out).trans (hb.mono (HB2.out).size)
    clear hb CA HB2 t0 t2
    go_wp2_with fail
    go_ret
    exact ⟨rfl, hB2⟩
  · rcases eqk k 2 with ⟨h2, h2b⟩ | ⟨h2, h2b⟩
    · subst h2
      have hv : foreignB 2 (lowV tx) = funcsF.any (isB tx) := by unfold foreignB; rw [any_lit low_funcs]; simp
      have ca := rany5_any tx funcsF (w.heap.size + 1) 6 ((w.alloc (.cells #[.int .i64 2, .int .i64 at_, .string tx, .string nm] 25)).alloc (.cells (funcsF.map Value.string).toArray 9)) (txAt_at _ 9 funcsF _ (by simp)) (by simp) rfl (by decide) hs (size_getD sz_funcs)
      rw [← hv] at ca
      generalize foreignB 2 (lowV tx) = q at *
      have CA := hide ca
      have HB2 := hide (hB.alloc (by simp) (.cells (funcsF.map Value.string).toArray 9))
      clear ca hB hT hv
      go_enter Tryz.func39, Tryz.ntmps39
      go_wp2_with fail
      refine Calls.mono CA.out ?_
      rintro e w1 ⟨rfl, hb⟩
      have hB2 := (HB2.out).trans (hb.mono (HB2.out).size)
      clear hb CA HB2 t0 t2
      go_wp2_with fail
      go_ret
      exact ⟨rfl, hB2⟩
    · rcases eqk k 1 with ⟨h1, h1b⟩ | ⟨h1, h1b⟩
      · subst h1
        have hv : foreignB 1 (lowV tx) = identsF.any (isB tx) := by unfold foreignB; rw [any_lit low_idents]; simp
        have ca := rany5_any tx identsF (w.heap.size + 1) 4 ((w.alloc (.cells #[.int .i64 1, .int .i64 at_, .string tx, .string nm] 25)).alloc (.cells (identsF.map Value.string).toArray 9)) (txAt_at _ 9 identsF _ (by simp)) (by simp) rfl (by decide) hs (size_getD sz_idents)
        rw [← hv] at ca
        generalize foreignB 1 (lowV tx) = q at *
        have CA := hide ca
        have HB2 := hide (hB.alloc (by simp) (.cells (identsF.map Value.string).toArray 9))
        clear ca hB hT hv
        go_enter Tryz.func39, Tryz.ntmps39
        go_wp2_with fail
        refine Calls.mono CA.out ?_
        rintro e w1 ⟨rfl, hb⟩
        have hB2 := (HB2.out).trans (hb.mono (HB2.out).size)
        clear hb CA HB2 t0 t2
        go_wp2_with fail
        go_ret
        exact ⟨rfl, hB2⟩
      · have hv : foreignB k (lowV tx) = false := by unfold foreignB; simp [h5, h2, h1]
        rw [hv]
        clear hB hT hv
        go_enter Tryz.func39, Tryz.ntmps39
        go_wp2_with fail
        go_ret
        exact ⟨rfl, HB.out⟩

/-- The document's kinds of sizes, and their scales. -/
def kindV (k : Int) (tx nm : ByteArray) : Int × Int :=
  if k = 5 then if lowV tx = pxB then (2, 64) else if lowV tx = frB then (6, 1000) else (0, 0)
  else if k = 4 then (3, 1000)
  else if k = 3 then if nought nm = true then (2, 0) else (0, 0)
  else if k = 1 then if lowV tx = autoB then (1, 0) else if lowV tx = minB then (4, 0) else if lowV tx = maxB then (5, 0) else if lowV tx = noneT then (7, 0) else (0, 0)
  else (0, 0)
theorem is_lit {tx z : ByteArray} (h : lowV z = z) : ((lowV tx).toList == (lowV z).toList) = decide (lowV tx = z) := by rw [toList_inj, h]
theorem low_px5 : lowV pxB = pxB := by decide +kernel
theorem low_fr5 : lowV frB = frB := by decide +kernel
def kws7 : List ByteArray := [autoB, ⟨#[]⟩, ⟨#[]⟩, minB, maxB, ⟨#[]⟩, noneT]
theorem low_kws : ∀ z ∈ kws7, lowV z = z := by decide +kernel
theorem sz_kws : ∀ z ∈ kws7, z.size ≤ 2000000 := by decide +kernel
/-- None of the first keywords. -/
def kwNo (low : ByteArray) (j : Nat) : Prop := (0 < j → ¬ low = autoB) ∧ (3 < j → ¬ low = minB) ∧ (4 < j → ¬ low = maxB) ∧ (6 < j → ¬ low = noneT)

/-- What the document's kind has made. -/
structure KindSt (w wr : World) (k at_ : Int) (tx nm : ByteArray) : Prop where
  tk : TkAt w.heap.size k at_ tx nm wr
  txs : TxAt wr (w.heap.size + 1) kws7
  lt : w.heap.size + 1 < wr.heap.size
  bel : Below w.heap.size w wr
theorem KindSt.next {w w1 w2 : World} {k at_ : Int} {tx nm : ByteArray} (h : KindSt w w1 k at_ tx nm) (hb : Below w1.heap.size w1 w2) : KindSt w w2 k at_ tx nm :=
  ⟨h.tk.below hb h.tk.lt, h.txs.below hb h.lt, Nat.lt_of_lt_of_le h.lt hb.size, h.bel.trans (hb.mono h.bel.size)⟩
theorem KindSt.new (w : World) (k at_ : Int) (tx nm : ByteArray) : KindSt w ((w.alloc (.cells #[.int .i64 k, .int .i64 at_, .string tx, .string nm] 25)).alloc (.cells (kws7.map Value.string).toArray 9)) k at_ tx nm := by
  have h1 := TkAt.new w k at_ tx nm
  have hb := (Below.refl _ w).alloc (Nat.le_refl _) (.cells #[.int .i64 k, .int .i64 at_, .string tx, .string nm] 25)
  have hb2 := (Below.refl _ (w.alloc (.cells #[.int .i64 k, .int .i64 at_, .string tx, .string nm] 25))).alloc (Nat.le_refl _) (.cells (kws7.map Value.string).toArray 9)
  exact ⟨h1.below hb2 h1.lt, txAt_at _ 9 kws7 _ (by simp), by simp, hb.trans (hb2.mono hb.size)⟩

set_option maxRecDepth 100000 in
set_option maxHeartbeats 8000000 in
theorem rkind_kw (at_ : Int) (tx nm : ByteArray) (w : World) (hs : tx.size ≤ 2000000) :
    Calls Tryz.prog 40 #[tkA 1 at_ tx nm] w fun e w' => e = .returned (.tuple #[.int .i64 (kindV 1 tx nm).1, .int .i64 (kindV 1 tx nm).2]) ∧ Below w.heap.size w w' := by
  have hT := TkAt.new w 1 at_ tx nm
  have t0 := hT.c0
  have ST0 := hide (KindSt.new w 1 at_ tx nm)
  have hkv : kindV 1 tx nm = if lowV tx = autoB then (1, 0) else if lowV tx = minB then (4, 0) else if lowV tx = maxB then (5, 0) else if lowV tx = noneT then (7, 0) else (0, 0) := by unfold kindV; simp
  generalize kindV 1 tx nm = KV at *
  have ci : ∀ (z : ByteArray) (w' : World), z ∈ kws7 → Calls Tryz.prog 47 #[.string tx, .string z] w' fun e w'' => e = .returned (.bool (decide (lowV tx = z))) ∧ Below w'.heap.size w' w'' := fun z w' hz => by
    have c := ris4_any tx z w' hs (sz_kws z hz)
    rw [is_lit (low_kws z hz)] at c
    exact c
  have CI := hide ci
  have HKV := hide hkv
  clear ci hT hkv
  unfold tkA
  go_enter Tryz.func40, Tryz.ntmps40
  go_upto_region 14 with fail
  clear t0
  have hsl : ∃ q, q = w.heap.size + 1 := ⟨_, rfl⟩
  go_wp2_with fail
  go_loopw [5] (fun i wr => ∃ k : Nat, k ≤ 7 ∧ i = .int .i64 (k : Int) ∧ Hid (kwNo (lowV tx) k) ∧ Hid (KindSt w wr 1 at_ tx nm)) (fun i _ => (7 - intOf i).toNat)
  case atStart => exact ⟨0, Nat.zero_le _, by go_num, hide ⟨by omega, by omega, by omega, by omega⟩, ST0⟩
  case round =>
    clear ST0
    obtain ⟨k, hk, rfl, HN, ST⟩ := hrel
    obtain rfl | rfl | rfl | rfl | rfl | rfl | rfl | rfl : k = 0 ∨ k = 1 ∨ k = 2 ∨ k = 3 ∨ k = 4 ∨ k = 5 ∨ k = 6 ∨ k = 7 := by omega
    · have cz : wr.cell? ⟨w.heap.size + 1, 0, none⟩ = some (.string ⟨#[97, 117, 116, 111]⟩) := (ST.out).txs 0 (by decide)
      have c2 := (ST.out).tk.c2
      have cc : ∀ w', KindSt w w' 1 at_ tx nm → Calls Tryz.prog 47 #[.string tx, .string ⟨#[97, 117, 116, 111]⟩] w' fun e w'' => e = .returned (.bool (decide (lowV tx = autoB))) ∧ KindSt w w'' 1 at_ tx nm := fun w' h => (unhide CI autoB w' (by simp [kws7])).mono fun _ _ hh => ⟨hh.1, h.next hh.2⟩
      by_cases hq : lowV tx = autoB
      · have hv := HKV.out

        rw [if_pos hq] at hv
        have HV := hide hv
        rw [decide_eq_true hq] at cc
        have CC := hide cc
        clear hv HKV cc hq HN CI
        go_upto_region 17 with fail
        have STd : Hid (KindSt w wr.drew 1 at_ tx nm) := hide ((ST.out).next (Below.refl _ wr).drew)
        have d2 := (STd.out).tk.c2
        have dz : wr.drew.cell? ⟨w.heap.size + 1, 0, none⟩ = some (.string ⟨#[97, 117, 116, 111]⟩) := (STd.out).txs 0 (by decide)
        go_region_held3 (fun w' => w'.cell? ⟨w.heap.size, 2, none⟩ = some (.string tx) ∧ w'.cell? ⟨w.heap.size + 1, 0, none⟩ = some (.string ⟨#[97, 117, 116, 111]⟩) ∧ Hid (KindSt w w' 1 at_ tx nm))
          (first | exact ⟨by assumption, by assumption, by assumption⟩ | go_keep)
          (first
            | (go_at_call 47; refine (unhide CC _ (by assumption : Hid (KindSt w _ 1 at_ tx nm)).out).mono ?_; rintro e w' ⟨rfl, hq⟩; have hq2 := hq.tk.c2; have hqz : w'.cell? ⟨w.heap.size + 1, 0, none⟩ = some (.string ⟨#[97, 117, 116, 111]⟩) := hq.txs 0 (by decide); have HQ := hide hq; clear hq))
        go_wp2_with fail
        go_ret2
        exact ⟨by rw [HV.out] <;> rfl, (by assumption : Hid (KindSt w _ 1 at_ tx nm)).out.bel⟩
      · have HN2 : Hid (kwNo (lowV tx) 1) := hide ⟨fun _ => hq, fun h => (HN.out).2.1 (by omega), fun h => (HN.out).2.2.1 (by omega), fun h => (HN.out).2.2.2 (by omega)⟩
        rw [decide_eq_false hq] at cc
        have CC := hide cc
        clear HKV cc hq HN CI
        go_upto_region 17 with fail
        have STd : Hid (KindSt w wr.drew 1 at_ tx nm) := hide ((ST.out).next (Below.refl _ wr).drew)
        have d2 := (STd.out).tk.c2
        have dz : wr.drew.cell? ⟨w.heap.size + 1, 0, none⟩ = some (.string ⟨#[97, 117, 116, 111]⟩) := (STd.out).txs 0 (by decide)
        clear ST cz c2
        go_region_held3 (fun w' => w'.cell? ⟨w.heap.size, 2, none⟩ = some (.string tx) ∧ w'.cell? ⟨w.heap.size + 1, 0, none⟩ = some (.string ⟨#[97, 117, 116, 111]⟩) ∧ Hid (KindSt w w' 1 at_ tx nm))
          (first | exact ⟨by assumption, by assumption, by assumption⟩ | go_keep)
          (first
            | (go_at_call 47; refine (unhide CC _ (by assumption : Hid (KindSt w _ 1 at_ tx nm)).out).mono ?_; rintro e w' ⟨rfl, hq⟩; have hq2 := hq.tk.c2; have hqz : w'.cell? ⟨w.heap.size + 1, 0, none⟩ = some (.string ⟨#[97, 117, 116, 111]⟩) := hq.txs 0 (by decide); have HQ := hide hq; clear hq))
        go_wp2_with fail
        go_round
        case rel => exact ⟨1, by omega, by go_num, HN2, by assumption⟩
        case measure => simp [intOf]
    · have cz : wr.cell? ⟨w.heap.size + 1, 1, none⟩ = some (.string ⟨#[]⟩) := (ST.out).txs 1 (by decide)
      have ST2 : Hid (KindSt w wr.drew 1 at_ tx nm) := hide ((ST.out).next (Below.refl _ wr).drew)
      have HN2 : Hid (kwNo (lowV tx) 2) := hide ⟨fun _ => (HN.out).1 (by omega), fun h => (HN.out).2.1 (by omega), fun h => (HN.out).2.2.1 (by omega), fun h => (HN.out).2.2.2 (by omega)⟩
      clear HN CI HKV
      go_upto_region 17 with fail
      go_quiet (fail)
      have STq := ST
      go_wp2_with fail
      go_round
      case rel => exact ⟨2, by omega, by go_num, HN2, by first | assumption | exact hide ((ST.out).next (by first | exact drw _ _ _ | exact (Below.refl _ wr).drew))⟩
      case measure => simp [intOf]
    · have cz : wr.cell? ⟨w.heap.size + 1, 2, none⟩ = some (.string ⟨#[]⟩) := (ST.out).txs 2 (by decide)
      have ST2 : Hid (KindSt w wr.drew 1 at_ tx nm) := hide ((ST.out).next (Below.refl _ wr).drew)
      have HN2 : Hid (kwNo (lowV tx) 3) := hide ⟨fun _ => (HN.out).1 (by omega), fun h => (HN.out).2.1 (by omega), fun h => (HN.out).2.2.1 (by omega), fun h => (HN.out).2.2.2 (by omega)⟩
      clear HN CI HKV
      go_upto_region 17 with fail
      go_quiet (fail)
      have STq := ST
      go_wp2_with fail
      go_round
      case rel => exact ⟨3, by omega, by go_num, HN2, by first | assumption | exact hide ((ST.out).next (by first | exact drw _ _ _ | exact (Below.refl _ wr).drew))⟩
      case measure => simp [intOf]
    · have cz : wr.cell? ⟨w.heap.size + 1, 3, none⟩ = some (.string ⟨#[109, 105, 110, 45, 99, 111, 110, 116, 101, 110, 116]⟩) := (ST.out).txs 3 (by decide)
      have c2 := (ST.out).tk.c2
      have cc : ∀ w', KindSt w w' 1 at_ tx nm → Calls Tryz.prog 47 #[.string tx, .string ⟨#[109, 105, 110, 45, 99, 111, 110, 116, 101, 110, 116]⟩] w' fun e w'' => e = .returned (.bool (decide (lowV tx = minB))) ∧ KindSt w w'' 1 at_ tx nm := fun w' h => (unhide CI minB w' (by simp [kws7])).mono fun _ _ hh => ⟨hh.1, h.next hh.2⟩
      by_cases hq : lowV tx = minB
      · have hv := HKV.out
        rw [if_neg ((HN.out).1 (by omega))] at hv
        rw [if_pos hq] at hv
        have HV := hide hv
        rw [decide_eq_true hq] at cc
        have CC := hide cc
        clear hv HKV cc hq HN CI
        go_upto_region 17 with fail
        have STd : Hid (KindSt w wr.drew 1 at_ tx nm) := hide ((ST.out).next (Below.refl _ wr).drew)
        have d2 := (STd.out).tk.c2
        have dz : wr.drew.cell? ⟨w.heap.size + 1, 3, none⟩ = some (.string ⟨#[109, 105, 110, 45, 99, 111, 110, 116, 101, 110, 116]⟩) := (STd.out).txs 3 (by decide)
        go_region_held3 (fun w' => w'.cell? ⟨w.heap.size, 2, none⟩ = some (.string tx) ∧ w'.cell? ⟨w.heap.size + 1, 3, none⟩ = some (.string ⟨#[109, 105, 110, 45, 99, 111, 110, 116, 101, 110, 116]⟩) ∧ Hid (KindSt w w' 1 at_ tx nm))
          (first | exact ⟨by assumption, by assumption, by assumption⟩ | go_keep)
          (first
            | (go_at_call 47; refine (unhide CC _ (by assumption : Hid (KindSt w _ 1 at_ tx nm)).out).mono ?_; rintro e w' ⟨rfl, hq⟩; have hq2 := hq.tk.c2; have hqz : w'.cell? ⟨w.heap.size + 1, 3, none⟩ = some (.string ⟨#[109, 105, 110, 45, 99, 111, 110, 116, 101, 110, 116]⟩) := hq.txs 3 (by decide); have HQ := hide hq; clear hq))
        go_wp2_with fail
        go_ret2
        exact ⟨by rw [HV.out] <;> rfl, (by assumption : Hid (KindSt w _ 1 at_ tx nm)).out.bel⟩
      · have HN2 : Hid (kwNo (lowV tx) 4) := hide ⟨fun _ => (HN.out).1 (by omega), fun h => hq, fun h => (HN.out).2.2.1 (by omega), fun h => (HN.out).2.2.2 (by omega)⟩
        rw [decide_eq_false hq] at cc
        have CC := hide cc
        clear HKV cc hq HN CI
        go_upto_region 17 with fail
        have STd : Hid (KindSt w wr.drew 1 at_ tx nm) := hide ((ST.out).next (Below.refl _ wr).drew)
        have d2 := (STd.out).tk.c2
        have dz : wr.drew.cell? ⟨w.heap.size + 1, 3, none⟩ = some (.string ⟨#[109, 105, 110, 45, 99, 111, 110, 116, 101, 110, 116]⟩) := (STd.out).txs 3 (by decide)
        clear ST cz c2
        go_region_held3 (fun w' => w'.cell? ⟨w.heap.size, 2, none⟩ = some (.string tx) ∧ w'.cell? ⟨w.heap.size + 1, 3, none⟩ = some (.string ⟨#[109, 105, 110, 45, 99, 111, 110, 116, 101, 110, 116]⟩) ∧ Hid (KindSt w w' 1 at_ tx nm))
          (first | exact ⟨by assumption, by assumption, by assumption⟩ | go_keep)
          (first
            | (go_at_call 47; refine (unhide CC _ (by assumption : Hid (KindSt w _ 1 at_ tx nm)).out).mono ?_; rintro e w' ⟨rfl, hq⟩; have hq2 := hq.tk.c2; have hqz : w'.cell? ⟨w.heap.size + 1, 3, none⟩ = some (.string ⟨#[109, 105, 110, 45, 99, 111, 110, 116, 101, 110, 116]⟩) := hq.txs 3 (by decide); have HQ := hide hq; clear hq))
        go_wp2_with fail
        go_round
        case rel => exact ⟨4, by omega, by go_num, HN2, by assumption⟩
        case measure => simp [intOf]
    · have cz : wr.cell? ⟨w.heap.size + 1, 4, none⟩ = some (.string ⟨#[109, 97, 120, 45, 99, 111, 110, 116, 101, 110, 116]⟩) := (ST.out).txs 4 (by decide)
      have c2 := (ST.out).tk.c2
      have cc : ∀ w', KindSt w w' 1 at_ tx nm → Calls Tryz.prog 47 #[.string tx, .string ⟨#[109, 97, 120, 45, 99, 111, 110, 116, 101, 110, 116]⟩] w' fun e w'' => e = .returned (.bool (decide (lowV tx = maxB))) ∧ KindSt w w'' 1 at_ tx nm := fun w' h => (unhide CI maxB w' (by simp [kws7])).mono fun _ _ hh => ⟨hh.1, h.next hh.2⟩
      by_cases hq : lowV tx = maxB
      · have hv := HKV.out
        rw [if_neg ((HN.out).1 (by omega))] at hv
        rw [if_neg ((HN.out).2.1 (by omega))] at hv
        rw [if_pos hq] at hv
        have HV := hide hv
        rw [decide_eq_true hq] at cc
        have CC := hide cc
        clear hv HKV cc hq HN CI
        go_upto_region 17 with fail
        have STd : Hid (KindSt w wr.drew 1 at_ tx nm) := hide ((ST.out).next (Below.refl _ wr).drew)
        have d2 := (STd.out).tk.c2
        have dz : wr.drew.cell? ⟨w.heap.size + 1, 4, none⟩ = some (.string ⟨#[109, 97, 120, 45, 99, 111, 110, 116, 101, 110, 116]⟩) := (STd.out).txs 4 (by decide)
        go_region_held3 (fun w' => w'.cell? ⟨w.heap.size, 2, none⟩ = some (.string tx) ∧ w'.cell? ⟨w.heap.size + 1, 4, none⟩ = some (.string ⟨#[109, 97, 120, 45, 99, 111, 110, 116, 101, 110, 116]⟩) ∧ Hid (KindSt w w' 1 at_ tx nm))
          (first | exact ⟨by assumption, by assumption, by assumption⟩ | go_keep)
          (first
            | (go_at_call 47; refine (unhide CC _ (by assumption : Hid (KindSt w _ 1 at_ tx nm)).out).mono ?_; rintro e w' ⟨rfl, hq⟩; have hq2 := hq.tk.c2; have hqz : w'.cell? ⟨w.heap.size + 1, 4, none⟩ = some (.string ⟨#[109, 97, 120, 45, 99, 111, 110, 116, 101, 110, 116]⟩) := hq.txs 4 (by decide); have HQ := hide hq; clear hq))
        go_wp2_with fail
        go_ret2
        exact ⟨by rw [HV.out] <;> rfl, (by assumption : Hid (KindSt w _ 1 at_ tx nm)).out.bel⟩
      · have HN2 : Hid (kwNo (lowV tx) 5) := hide ⟨fun _ => (HN.out).1 (by omega), fun h => (HN.out).2.1 (by omega), fun h => hq, fun h => (HN.out).2.2.2 (by omega)⟩
        rw [decide_eq_false hq] at cc
        have CC := hide cc
        clear HKV cc hq HN CI
        go_upto_region 17 with fail
        have STd : Hid (KindSt w wr.drew 1 at_ tx nm) := hide ((ST.out).next (Below.refl _ wr).drew)
        have d2 := (STd.out).tk.c2
        have dz : wr.drew.cell? ⟨w.heap.size + 1, 4, none⟩ = some (.string ⟨#[109, 97, 120, 45, 99, 111, 110, 116, 101, 110, 116]⟩) := (STd.out).txs 4 (by decide)
        clear ST cz c2
        go_region_held3 (fun w' => w'.cell? ⟨w.heap.size, 2, none⟩ = some (.string tx) ∧ w'.cell? ⟨w.heap.size + 1, 4, none⟩ = some (.string ⟨#[109, 97, 120, 45, 99, 111, 110, 116, 101, 110, 116]⟩) ∧ Hid (KindSt w w' 1 at_ tx nm))
          (first | exact ⟨by assumption, by assumption, by assumption⟩ | go_keep)
          (first
            | (go_at_call 47; refine (unhide CC _ (by assumption : Hid (KindSt w _ 1 at_ tx nm)).out).mono ?_; rintro e w' ⟨rfl, hq⟩; have hq2 := hq.tk.c2; have hqz : w'.cell? ⟨w.heap.size + 1, 4, none⟩ = some (.string ⟨#[109, 97, 120, 45, 99, 111, 110, 116, 101, 110, 116]⟩) := hq.txs 4 (by decide); have HQ := hide hq; clear hq))
        go_wp2_with fail
        go_round
        case rel => exact ⟨5, by omega, by go_num, HN2, by assumption⟩
        case measure => simp [intOf]
    · have cz : wr.cell? ⟨w.heap.size + 1, 5, none⟩ = some (.string ⟨#[]⟩) := (ST.out).txs 5 (by decide)
      have ST2 : Hid (KindSt w wr.drew 1 at_ tx nm) := hide ((ST.out).next (Below.refl _ wr).drew)
      have HN2 : Hid (kwNo (lowV tx) 6) := hide ⟨fun _ => (HN.out).1 (by omega), fun h => (HN.out).2.1 (by omega), fun h => (HN.out).2.2.1 (by omega), fun h => (HN.out).2.2.2 (by omega)⟩
      clear HN CI HKV
      go_upto_region 17 with fail
      go_quiet (fail)
      have STq := ST
      go_wp2_with fail
      go_round
      case rel => exact ⟨6, by omega, by go_num, HN2, by first | assumption | exact hide ((ST.out).next (by first | exact drw _ _ _ | exact (Below.refl _ wr).drew))⟩
      case measure => simp [intOf]
    · have cz : wr.cell? ⟨w.heap.size + 1, 6, none⟩ = some (.string ⟨#[110, 111, 110, 101]⟩) := (ST.out).txs 6 (by decide)
      have c2 := (ST.out).tk.c2
      have cc : ∀ w', KindSt w w' 1 at_ tx nm → Calls Tryz.prog 47 #[.string tx, .string ⟨#[110, 111, 110, 101]⟩] w' fun e w'' => e = .returned (.bool (decide (lowV tx = noneT))) ∧ KindSt w w'' 1 at_ tx nm := fun w' h => (unhide CI noneT w' (by simp [kws7])).mono fun _ _ hh => ⟨hh.1, h.next hh.2⟩
      by_cases hq : lowV tx = noneT
      · have hv := HKV.out
        rw [if_neg ((HN.out).1 (by omega))] at hv
        rw [if_neg ((HN.out).2.1 (by omega))] at hv
        rw [if_neg ((HN.out).2.2.1 (by omega))] at hv
        rw [if_pos hq] at hv
        have HV := hide hv
        rw [decide_eq_true hq] at cc
        have CC := hide cc
        clear hv HKV cc hq HN CI
        go_upto_region 17 with fail
        have STd : Hid (KindSt w wr.drew 1 at_ tx nm) := hide ((ST.out).next (Below.refl _ wr).drew)
        have d2 := (STd.out).tk.c2
        have dz : wr.drew.cell? ⟨w.heap.size + 1, 6, none⟩ = some (.string ⟨#[110, 111, 110, 101]⟩) := (STd.out).txs 6 (by decide)
        go_region_held3 (fun w' => w'.cell? ⟨w.heap.size, 2, none⟩ = some (.string tx) ∧ w'.cell? ⟨w.heap.size + 1, 6, none⟩ = some (.string ⟨#[110, 111, 110, 101]⟩) ∧ Hid (KindSt w w' 1 at_ tx nm))
          (first | exact ⟨by assumption, by assumption, by assumption⟩ | go_keep)
          (first
            | (go_at_call 47; refine (unhide CC _ (by assumption : Hid (KindSt w _ 1 at_ tx nm)).out).mono ?_; rintro e w' ⟨rfl, hq⟩; have hq2 := hq.tk.c2; have hqz : w'.cell? ⟨w.heap.size + 1, 6, none⟩ = some (.string ⟨#[110, 111, 110, 101]⟩) := hq.txs 6 (by decide); have HQ := hide hq; clear hq))
        go_wp2_with fail
        go_ret2
        exact ⟨by rw [HV.out] <;> rfl, (by assumption : Hid (KindSt w _ 1 at_ tx nm)).out.bel⟩
      · have HN2 : Hid (kwNo (lowV tx) 7) := hide ⟨fun _ => (HN.out).1 (by omega), fun h => (HN.out).2.1 (by omega), fun h => (HN.out).2.2.1 (by omega), fun h => hq⟩
        rw [decide_eq_false hq] at cc
        have CC := hide cc
        clear HKV cc hq HN CI
        go_upto_region 17 with fail
        have STd : Hid (KindSt w wr.drew 1 at_ tx nm) := hide ((ST.out).next (Below.refl _ wr).drew)
        have d2 := (STd.out).tk.c2
        have dz : wr.drew.cell? ⟨w.heap.size + 1, 6, none⟩ = some (.string ⟨#[110, 111, 110, 101]⟩) := (STd.out).txs 6 (by decide)
        clear ST cz c2
        go_region_held3 (fun w' => w'.cell? ⟨w.heap.size, 2, none⟩ = some (.string tx) ∧ w'.cell? ⟨w.heap.size + 1, 6, none⟩ = some (.string ⟨#[110, 111, 110, 101]⟩) ∧ Hid (KindSt w w' 1 at_ tx nm))
          (first | exact ⟨by assumption, by assumption, by assumption⟩ | go_keep)
          (first
            | (go_at_call 47; refine (unhide CC _ (by assumption : Hid (KindSt w _ 1 at_ tx nm)).out).mono ?_; rintro e w' ⟨rfl, hq⟩; have hq2 := hq.tk.c2; have hqz : w'.cell? ⟨w.heap.size + 1, 6, none⟩ = some (.string ⟨#[110, 111, 110, 101]⟩) := hq.txs 6 (by decide); have HQ := hide hq; clear hq))
        go_wp2_with fail
        go_round
        case rel => exact ⟨7, by omega, by go_num, HN2, by assumption⟩
        case measure => simp [intOf]
    · have hv := HKV.out
      rw [if_neg ((HN.out).1 (by omega)), if_neg ((HN.out).2.1 (by omega)), if_neg ((HN.out).2.2.1 (by omega)), if_neg ((HN.out).2.2.2 (by omega))] at hv
      have HV := hide hv
      clear hv HKV HN CI
      go_wp2_with fail
      go_ret2
      exact ⟨by rw [HV.out] <;> rfl, (ST.out).bel⟩

end Go.Proofs.YtcjmmblkcdpgoaaGreatDoor

/- The document's own answers on sizes. -/
namespace Go.Proofs.YtcjmmblkcdpgoaaGreatDoor
open Go.RowKit

set_option maxRecDepth 100000 in
set_option maxHeartbeats 1000000 in
theorem rbits_any (a : Int) (w : World) : Calls Tryz.prog 52 #[.int .i64 a] w fun e w' => e = .returned (.int .i64 (a % 64)) ∧ w' = w := by
  go_enter Tryz.func52, Tryz.ntmps52
  go_wp2
  go_ret
  refine ⟨?_, rfl⟩
  show Ending.returned (.int .i64 (wrap64 ((IntKind.u64.wrap a).tmod 64))) = _
  have h1 : IntKind.u64.wrap a = a % 18446744073709551616 := by simp [IntKind.wrap, IntKind.bits, IntKind.signed]
  rw [h1, Int.tmod_eq_emod_of_nonneg (Int.emod_nonneg _ (by decide)), wrap64_id (by omega) (by omega)]
  congr 2
  omega

set_option maxRecDepth 100000 in
set_option maxHeartbeats 1000000 in
theorem rhas_any (a x : Int) (w : World) (hx : isBit x) : Calls Tryz.prog 53 #[.int .i64 (a % 64), .int .i64 x] w fun e w' => e = .returned (.bool (hasB a x)) ∧ w' = w := by
  have h0 : 0 ≤ a % 64 := Int.emod_nonneg _ (by decide)
  have h1 : a % 64 < 64 := Int.emod_lt_of_pos _ (by decide)
  have hh : hasB a x = decide (a % 64 / x % 2 = 1) := rfl
  have HH := hide hh
  clear hh
  generalize a % 64 = c at *
  rcases hx with rfl | rfl | rfl | rfl | rfl | rfl <;> (
    go_enter Tryz.func53, Tryz.ntmps53
    go_wp2
    go_ret
    refine ⟨?_, rfl⟩
    rw [HH.out]
    show Ending.returned (.bool _) = _
    congr 2
    try (rw [Int.ediv_one, Bool.eq_iff_iff, beq_iff_eq, decide_eq_true_iff]))

end Go.Proofs.YtcjmmblkcdpgoaaGreatDoor

/- The document's own answers on sizes with a number. -/
namespace Go.Proofs.YtcjmmblkcdpgoaaGreatDoor
open Go.RowKit

/-- What the document's Good begins with. -/
theorem rg_box (w : World) (k n : Int) : LenAt (w.alloc (.cells #[.int .i64 k, .int .i64 n] 27)) w.heap.size k n ∧ Below w.heap.size w (w.alloc (.cells #[.int .i64 k, .int .i64 n] 27)) :=
  ⟨LenAt.new w k n, (Below.refl _ w).alloc (Nat.le_refl _) _⟩

set_option maxRecDepth 100000 in
set_option maxHeartbeats 4000000 in
theorem rgood_px (n a : Int) (w : World) :
    Calls Tryz.prog 20 #[lenA 2 n, .int .i64 a] w fun e w' => e = .returned (.bool (goodV 2 n a)) ∧ Below w.heap.size w w' := by
  obtain ⟨hL, hB⟩ := rg_box w 2 n
  have c0 := hL.c0
  have c1 := hL.c1
  have cb := fun w => rbits_any a w
  have h2 := fun w => rhas_any a 2 w (by unfold isBit; omega)
  have CB := hide cb
  clear cb hL
  cases e2 : hasB a 2 <;> (
    rw [e2] at h2
    have H2 := hide h2
    have E2 := hide e2
    clear h2 e2
    unfold lenA
    go_enter Tryz.func20, Tryz.ntmps20
    go_wp2_with (first
      | (go_at_call 52; refine (unhide CB _).mono ?_; rintro e w' ⟨rfl, rfl⟩)
      | (refine (unhide H2 _).mono ?_; rintro e w' ⟨rfl, rfl⟩))
    all_goals (
      go_ret
      refine ⟨?_, hB⟩
      show Ending.returned (.bool _) = _
      congr 2
      simp [goodV, withinV, E2.out]
      try omega))

set_option maxRecDepth 100000 in
set_option maxHeartbeats 4000000 in
theorem rgood_pct (n a : Int) (w : World) :
    Calls Tryz.prog 20 #[lenA 3 n, .int .i64 a] w fun e w' => e = .returned (.bool (goodV 3 n a)) ∧ Below w.heap.size w w' := by
  obtain ⟨hL, hB⟩ := rg_box w 3 n
  have c0 := hL.c0
  have c1 := hL.c1
  have cb := fun w => rbits_any a w
  have h1 := fun w => rhas_any a 1 w (by unfold isBit; omega)
  have h2 := fun w => rhas_any a 2 w (by unfold isBit; omega)
  have CB := hide cb
  clear cb hL
  cases e1 : hasB a 1 <;> cases e2 : hasB a 2 <;> (
    rw [e1] at h1
    rw [e2] at h2
    have H1 := hide h1
    have E1 := hide e1
    have H2 := hide h2
    have E2 := hide e2
    clear h1 e1 h2 e2
    unfold lenA
    go_enter Tryz.func20, Tryz.ntmps20
    go_wp2_with (first
      | (go_at_call 52; refine (unhide CB _).mono ?_; rintro e w' ⟨rfl, rfl⟩)
      | (refine (unhide H1 _).mono ?_; rintro e w' ⟨rfl, rfl⟩)
      | (refine (unhide H2 _).mono ?_; rintro e w' ⟨rfl, rfl⟩))
    all_goals (
      go_ret
      refine ⟨?_, hB⟩
      show Ending.returned (.bool _) = _
      congr 2
      simp [goodV, withinV, E1.out, E2.out]
      try omega))

set_option maxRecDepth 100000 in
set_option maxHeartbeats 4000000 in
theorem rgood_fr (n a : Int) (w : World) :
    Calls Tryz.prog 20 #[lenA 6 n, .int .i64 a] w fun e w' => e = .returned (.bool (goodV 6 n a)) ∧ Below w.heap.size w w' := by
  obtain ⟨hL, hB⟩ := rg_box w 6 n
  have c0 := hL.c0
  have c1 := hL.c1
  have cb := fun w => rbits_any a w
  have h16 := fun w => rhas_any a 16 w (by unfold isBit; omega)
  have CB := hide cb
  clear cb hL
  cases e16 : hasB a 16 <;> (
    rw [e16] at h16
    have H16 := hide h16
    have E16 := hide e16
    clear h16 e16
    unfold lenA
    go_enter Tryz.func20, Tryz.ntmps20
    go_wp2_with (first
      | (go_at_call 52; refine (unhide CB _).mono ?_; rintro e w' ⟨rfl, rfl⟩)
      | (refine (unhide H16 _).mono ?_; rintro e w' ⟨rfl, rfl⟩))
    all_goals (
      go_ret
      refine ⟨?_, hB⟩
      show Ending.returned (.bool _) = _
      congr 2
      simp [goodV, withinV, E16.out]
      try omega))

end Go.Proofs.YtcjmmblkcdpgoaaGreatDoor

/- The document's own answers on sizes without a number. -/
namespace Go.Proofs.YtcjmmblkcdpgoaaGreatDoor
open Go.RowKit

set_option maxRecDepth 100000 in
set_option maxHeartbeats 4000000 in
theorem rgood_auto (n a : Int) (w : World) :
    Calls Tryz.prog 20 #[lenA 1 n, .int .i64 a] w fun e w' => e = .returned (.bool (goodV 1 n a)) ∧ Below w.heap.size w w' := by
  obtain ⟨hL, hB⟩ := rg_box w 1 n
  have c0 := hL.c0
  have c1 := hL.c1
  have cb := fun w => rbits_any a w
  have hh := fun w => rhas_any a 4 w (by unfold isBit; omega)
  have hv : goodV 1 n a = if n = 0 then hasB a 4 else false := rfl
  have CB := hide cb
  clear cb hL
  unfold lenA
  cases eb : hasB a 4
  · rw [eb] at hh hv
    have hv2 : goodV 1 n a = false := by rw [hv]; split <;> rfl
    rw [hv2]
    have HH := hide hh
    clear hh hv hv2 eb
    go_enter Tryz.func20, Tryz.ntmps20
    go_wp2_with fail
    refine (unhide CB _).mono ?_
    rintro e w' ⟨rfl, rfl⟩
    go_wp2_with fail
    refine (unhide HH _).mono ?_
    rintro e w' ⟨rfl, rfl⟩
    go_wp2_with fail
    go_ret
    exact ⟨rfl, hB⟩
  · rw [eb] at hh hv
    have HH := hide hh
    rcases eqk n 0 with ⟨h0, h0b⟩ | ⟨h0, h0b⟩
    · rw [if_pos h0] at hv
      rw [hv]
      clear hh hv eb h0
      go_enter Tryz.func20, Tryz.ntmps20
      go_wp2_with fail
      refine (unhide CB _).mono ?_
      rintro e w' ⟨rfl, rfl⟩
      go_wp2_with fail
      refine (unhide HH _).mono ?_
      rintro e w' ⟨rfl, rfl⟩
      go_wp2_with fail
      go_ret
      exact ⟨rfl, hB⟩
    · rw [if_neg h0] at hv
      rw [hv]
      clear hh hv eb h0
      go_enter Tryz.func20, Tryz.ntmps20
      go_wp2_with fail
      refine (unhide CB _).mono ?_
      rintro e w' ⟨rfl, rfl⟩
      go_wp2_with fail
      refine (unhide HH _).mono ?_
      rintro e w' ⟨rfl, rfl⟩
      go_wp2_with fail
      go_ret
      exact ⟨rfl, hB⟩

set_option maxRecDepth 100000 in
set_option maxHeartbeats 4000000 in
theorem rgood_min (n a : Int) (w : World) :
    Calls Tryz.prog 20 #[lenA 4 n, .int .i64 a] w fun e w' => e = .returned (.bool (goodV 4 n a)) ∧ Below w.heap.size w w' := by
  obtain ⟨hL, hB⟩ := rg_box w 4 n
  have c0 := hL.c0
  have c1 := hL.c1
  have cb := fun w => rbits_any a w
  have hh := fun w => rhas_any a 8 w (by unfold isBit; omega)
  have hv : goodV 4 n a = if n = 0 then hasB a 8 else false := rfl
  have CB := hide cb
  clear cb hL
  unfold lenA
  cases eb : hasB a 8
  · rw [eb] at hh hv
    have hv2 : goodV 4 n a = false := by rw [hv]; split <;> rfl
    rw [hv2]
    have HH := hide hh
    clear hh hv hv2 eb
    go_enter Tryz.func20, Tryz.ntmps20
    go_wp2_with fail
    refine (unhide CB _).mono ?_
    rintro e w' ⟨rfl, rfl⟩
    go_wp2_with fail
    refine (unhide HH _).mono ?_
    rintro e w' ⟨rfl, rfl⟩
    go_wp2_with fail
    go_ret
    exact ⟨rfl, hB⟩
  · rw [eb] at hh hv
    have HH := hide hh
    rcases eqk n 0 with ⟨h0, h0b⟩ | ⟨h0, h0b⟩
    · rw [if_pos h0] at hv
      rw [hv]
      clear hh hv eb h0
      go_enter Tryz.func20, Tryz.ntmps20
      go_wp2_with fail
      refine (unhide CB _).mono ?_
      rintro e w' ⟨rfl, rfl⟩
      go_wp2_with fail
      refine (unhide HH _).mono ?_
      rintro e w' ⟨rfl, rfl⟩
      go_wp2_with fail
      go_ret
      exact ⟨rfl, hB⟩
    · rw [if_neg h0] at hv
      rw [hv]
      clear hh hv eb h0
      go_enter Tryz.func20, Tryz.ntmps20
      go_wp2_with fail
      refine (unhide CB _).mono ?_
      rintro e w' ⟨rfl, rfl⟩
      go_wp2_with fail
      refine (unhide HH _).mono ?_
      rintro e w' ⟨rfl, rfl⟩
      go_wp2_with fail
      go_ret
      exact ⟨rfl, hB⟩

set_option maxRecDepth 100000 in
set_option maxHeartbeats 4000000 in
theorem rgood_max (n a : Int) (w : World) :
    Calls Tryz.prog 20 #[lenA 5 n, .int .i64 a] w fun e w' => e = .returned (.bool (goodV 5 n a)) ∧ Below w.heap.size w w' := by
  obtain ⟨hL, hB⟩ := rg_box w 5 n
  have c0 := hL.c0
  have c1 := hL.c1
  have cb := fun w => rbits_any a w
  have hh := fun w => rhas_any a 8 w (by unfold isBit; omega)
  have hv : goodV 5 n a = if n = 0 then hasB a 8 else false := rfl
  have CB := hide cb
  clear cb hL
  unfold lenA
  cases eb : hasB a 8
  · rw [eb] at hh hv
    have hv2 : goodV 5 n a = false := by rw [hv]; split <;> rfl
    rw [hv2]
    have HH := hide hh
    clear hh hv hv2 eb
    go_enter Tryz.func20, Tryz.ntmps20
    go_wp2_with fail
    refine (unhide CB _).mono ?_
    rintro e w' ⟨rfl, rfl⟩
    go_wp2_with fail
    refine (unhide HH _).mono ?_
    rintro e w' ⟨rfl, rfl⟩
    go_wp2_with fail
    go_ret
    exact ⟨rfl, hB⟩
  · rw [eb] at hh hv
    have HH := hide hh
    rcases eqk n 0 with ⟨h0, h0b⟩ | ⟨h0, h0b⟩
    · rw [if_pos h0] at hv
      rw [hv]
      clear hh hv eb h0
      go_enter Tryz.func20, Tryz.ntmps20
      go_wp2_with fail
      refine (unhide CB _).mono ?_
      rintro e w' ⟨rfl, rfl⟩
      go_wp2_with fail
      refine (unhide HH _).mono ?_
      rintro e w' ⟨rfl, rfl⟩
      go_wp2_with fail
      go_ret
      exact ⟨rfl, hB⟩
    · rw [if_neg h0] at hv
      rw [hv]
      clear hh hv eb h0
      go_enter Tryz.func20, Tryz.ntmps20
      go_wp2_with fail
      refine (unhide CB _).mono ?_
      rintro e w' ⟨rfl, rfl⟩
      go_wp2_with fail
      refine (unhide HH _).mono ?_
      rintro e w' ⟨rfl, rfl⟩
      go_wp2_with fail
      go_ret
      exact ⟨rfl, hB⟩

set_option maxRecDepth 100000 in
set_option maxHeartbeats 4000000 in
theorem rgood_none (n a : Int) (w : World) :
    Calls Tryz.prog 20 #[lenA 7 n, .int .i64 a] w fun e w' => e = .returned (.bool (goodV 7 n a)) ∧ Below w.heap.size w w' := by
  obtain ⟨hL, hB⟩ := rg_box w 7 n
  have c0 := hL.c0
  have c1 := hL.c1
  have cb := fun w => rbits_any a w
  have hh := fun w => rhas_any a 32 w (by unfold isBit; omega)
  have hv : goodV 7 n a = if n = 0 then hasB a 32 else false := rfl
  have CB := hide cb
  clear cb hL
  unfold lenA
  cases eb : hasB a 32
  · rw [eb] at hh hv
    have hv2 : goodV 7 n a = false := by rw [hv]; split <;> rfl
    rw [hv2]
    have HH := hide hh
    clear hh hv hv2 eb
    go_enter Tryz.func20, Tryz.ntmps20
    go_wp2_with fail
    refine (unhide CB _).mono ?_
    rintro e w' ⟨rfl, rfl⟩
    go_wp2_with fail
    refine (unhide HH _).mono ?_
    rintro e w' ⟨rfl, rfl⟩
    go_wp2_with fail
    go_ret
    exact ⟨rfl, hB⟩
  · rw [eb] at hh hv
    have HH := hide hh
    rcases eqk n 0 with ⟨h0, h0b⟩ | ⟨h0, h0b⟩
    · rw [if_pos h0] at hv
      rw [hv]
      clear hh hv eb h0
      go_enter Tryz.func20, Tryz.ntmps20
      go_wp2_with fail
      refine (unhide CB _).mono ?_
      rintro e w' ⟨rfl, rfl⟩
      go_wp2_with fail
      refine (unhide HH _).mono ?_
      rintro e w' ⟨rfl, rfl⟩
      go_wp2_with fail
      go_ret
      exact ⟨rfl, hB⟩
    · rw [if_neg h0] at hv
      rw [hv]
      clear hh hv eb h0
      go_enter Tryz.func20, Tryz.ntmps20
      go_wp2_with fail
      refine (unhide CB _).mono ?_
      rintro e w' ⟨rfl, rfl⟩
      go_wp2_with fail
      refine (unhide HH _).mono ?_
      rintro e w' ⟨rfl, rfl⟩
      go_wp2_with fail
      go_ret
      exact ⟨rfl, hB⟩

set_option maxRecDepth 100000 in
set_option maxHeartbeats 4000000 in
theorem rgood_else (k n a : Int) (w : World) (h1 : ¬ k = 1) (h2 : ¬ k = 2) (h3 : ¬ k = 3) (h4 : ¬ k = 4) (h5 : ¬ k = 5) (h6 : ¬ k = 6) (h7 : ¬ k = 7) :
    Calls Tryz.prog 20 #[lenA k n, .int .i64 a] w fun e w' => e = .returned (.bool (goodV k n a)) ∧ Below w.heap.size w w' := by
  obtain ⟨hL, hB⟩ := rg_box w k n
  have c0 := hL.c0
  have c1 := hL.c1
  have cb := fun w => rbits_any a w
  have hv : goodV k n a = false := by
    unfold goodV
    rw [if_neg h2, if_neg h3, if_neg h6, if_neg h1, if_neg h4, if_neg h5, if_neg h7]
    split <;> rfl
  rw [hv]
  have CB := hide cb
  have b1 : (k == 1) = false := by simp [h1]
  have b2 : (k == 2) = false := by simp [h2]
  have b3 : (k == 3) = false := by simp [h3]
  have b4 : (k == 4) = false := by simp [h4]
  have b5 : (k == 5) = false := by simp [h5]
  have b6 : (k == 6) = false := by simp [h6]
  have b7 : (k == 7) = false := by simp [h7]
  clear cb hL hv h1 h2 h3 h4 h5 h6 h7
  unfold lenA
  go_enter Tryz.func20, Tryz.ntmps20
  go_wp2_with fail
  refine (unhide CB _).mono ?_
  rintro e w' ⟨rfl, rfl⟩
  go_wp2_with fail
  go_ret
  exact ⟨rfl, hB⟩
theorem rgood_any (k n a : Int) (w : World) :
    Calls Tryz.prog 20 #[lenA k n, .int .i64 a] w fun e w' => e = .returned (.bool (goodV k n a)) ∧ Below w.heap.size w w' := by
  by_cases h1 : k = 1
  · subst h1; exact rgood_auto n a w
  by_cases h2 : k = 2
  · subst h2; exact rgood_px n a w
  by_cases h3 : k = 3
  · subst h3; exact rgood_pct n a w
  by_cases h4 : k = 4
  · subst h4; exact rgood_min n a w
  by_cases h5 : k = 5
  · subst h5; exact rgood_max n a w
  by_cases h6 : k = 6
  · subst h6; exact rgood_fr n a w
  by_cases h7 : k = 7
  · subst h7; exact rgood_none n a w
  exact rgood_else k n a w h1 h2 h3 h4 h5 h6 h7

end Go.Proofs.YtcjmmblkcdpgoaaGreatDoor

/- The document's own kind of a word, and its size. -/
namespace Go.Proofs.YtcjmmblkcdpgoaaGreatDoor
open Go.RowKit

set_option maxRecDepth 100000 in
set_option maxHeartbeats 4000000 in
theorem rkind_any (k at_ : Int) (tx nm : ByteArray) (w : World) (hs : tx.size ≤ 2000000) (hn : nm.size ≤ 2000000) :
    Calls Tryz.prog 40 #[tkA k at_ tx nm] w fun e w' => e = .returned (.tuple #[.int .i64 (kindV k tx nm).1, .int .i64 (kindV k tx nm).2]) ∧ Below w.heap.size w w' := by
  rcases eqk k 1 with ⟨h1, h1b⟩ | ⟨h1, h1b⟩
  · subst h1; exact rkind_kw at_ tx nm w hs
  have hT := TkAt.new w k at_ tx nm
  have hB := (Below.refl _ w).alloc (Nat.le_refl _) (.cells #[.int .i64 k, .int .i64 at_, .string tx, .string nm] 25)
  have t0 := hT.c0
  have t2 := hT.c2
  have t3 := hT.c3
  have HB := hide hB
  have HT := hide hT
  clear hB hT
  have cp := fun w => ris4_any tx pxB w hs (by decide)
  rw [is_lit low_px5] at cp
  have cf := fun w => ris4_any tx frB w hs (by decide)
  rw [is_lit low_fr5] at cf
  have cn := fun w => rnought5_any nm w hn
  have CP : Hid (∀ w, Calls Tryz.prog 47 #[.string tx, .string ⟨#[112, 120]⟩] w fun e w' => e = .returned (.bool (decide (lowV tx = pxB))) ∧ Below w.heap.size w w') := hide cp
  have CF : Hid (∀ w, Calls Tryz.prog 47 #[.string tx, .string ⟨#[102, 114]⟩] w fun e w' => e = .returned (.bool (decide (lowV tx = frB))) ∧ Below w.heap.size w w') := hide cf
  have CN := hide cn
  clear cp cf cn
  unfold tkA
  rcases eqk k 5 with ⟨h5, h5b⟩ | ⟨h5, h5b⟩
  · subst h5
    have hkv : kindV 5 tx nm = if lowV tx = pxB then (2, 64) else if lowV tx = frB then (6, 1000) else (0, 0) := by unfold kindV; simp
    by_cases hp : lowV tx = pxB
    · rw [if_pos hp] at hkv
      rw [hkv]
      have CP2 := hide (fun w => by have := unhide CP w; rw [decide_eq_true hp] at this; exact this)
      clear hkv CP CF CN hp
      go_enter Tryz.func40, Tryz.ntmps40
      go_wp2_with fail
      refine Calls.mono (unhide CP2 _) ?_
      rintro e w1 ⟨rfl, hb⟩
      have hB2 := (HB.out).trans (hb.mono (HB.out).size)
      clear hb t0 t2 t3 CP2
      go_wp2_with fail
      go_ret2
      exact ⟨rfl, hB2⟩
    · rw [if_neg hp] at hkv
      have CP2 := hide (fun w => by have := unhide CP w; rw [decide_eq_false hp] at this; exact this)
      by_cases hf : lowV tx = frB
      · rw [if_pos hf] at hkv
        rw [hkv]
        have CF2 := hide (fun w => by have := unhide CF w; rw [decide_eq_true hf] at this; exact this)
        clear hkv CP CF CN hp hf
        go_enter Tryz.func40, Tryz.ntmps40
        go_wp2_with fail
        refine Calls.mono (unhide CP2 _) ?_
        rintro e w1 ⟨rfl, hb⟩
        have hB2 := (HB.out).trans (hb.mono (HB.out).size)
        have u2 := ((HT.out).below hb (HT.out).lt).c2
        clear hb t0 t2 t3 CP2
        go_wp2_with fail
        refine Calls.mono (unhide CF2 _) ?_
        rintro e w2 ⟨rfl, hb⟩
        have hB3 := hB2.trans (hb.mono hB2.size)
        clear hb hB2 CF2 u2
        go_wp2_with fail
        go_ret2
        exact ⟨rfl, hB3⟩
      · rw [if_neg hf] at hkv
        rw [hkv]
        have CF2 := hide (fun w => by have := unhide CF w; rw [decide_eq_false hf] at this; exact this)
        clear hkv CP CF CN hp hf
        go_enter Tryz.func40, Tryz.ntmps40
        go_wp2_with fail
        refine Calls.mono (unhide CP2 _) ?_
        rintro e w1 ⟨rfl, hb⟩
        have hB2 := (HB.out).trans (hb.mono (HB.out).size)
        have u2 := ((HT.out).below hb (HT.out).lt).c2
        clear hb t0 t2 t3 CP2
        go_wp2_with fail
        refine Calls.mono (unhide CF2 _) ?_
        rintro e w2 ⟨rfl, hb⟩
        have hB3 := hB2.trans (hb.mono hB2.size)
        clear hb hB2 CF2 u2
        go_wp2_with fail
        go_ret2
        exact ⟨rfl, hB3⟩
  · rcases eqk k 4 with ⟨h4, h4b⟩ | ⟨h4, h4b⟩
    · subst h4
      have hkv : kindV 4 tx nm = (3, 1000) := by unfold kindV; simp
      rw [hkv]
      clear hkv CP CF CN
      go_enter Tryz.func40, Tryz.ntmps40
      go_wp2_with fail
      go_ret2
      exact ⟨rfl, HB.out⟩
    · rcases eqk k 3 with ⟨h3, h3b⟩ | ⟨h3, h3b⟩
      · subst h3
        have hkv : kindV 3 tx nm = if nought nm = true then (2, 0) else (0, 0) := by unfold kindV; simp
        rw [hkv]
        generalize nought nm = q at *
        clear hkv CP CF
        cases q <;> (
          go_enter Tryz.func40, Tryz.ntmps40
          go_wp2_with fail
          refine Calls.mono (unhide CN _) ?_
          rintro e w1 ⟨rfl, rfl⟩
          go_wp2_with fail
          go_ret2
          exact ⟨rfl, HB.out⟩)
      · have hkv : kindV k tx nm = (0, 0) := by unfold kindV; simp [h1, h3, h4, h5]
        rw [hkv]
        clear hkv CP CF CN
        go_enter Tryz.func40, Tryz.ntmps40
        go_wp2_with fail
        go_ret2
        exact ⟨rfl, HB.out⟩

/-- The document's own size of a number's text. -/
def measE (nm : ByteArray) (k sc a : Int) : (Int × Int) × Int :=
  if (valueV nm sc).2 = 10 then ((0, 0), 10)
  else if ¬ (valueV nm sc).2 = 0 then ((0, 0), 50)
  else if goodV k (valueV nm sc).1 a = true then ((k, (valueV nm sc).1), 0)
  else if 0 < (valueV nm sc).1 then ((0, 0), 10)
  else if goodV k (-1) a = true then ((0, 0), 10) else ((0, 0), 50)
/-- The document's own size of a word. -/
def rsizeV (k : Int) (tx nm : ByteArray) (a : Int) : (Int × Int) × Int :=
  if foreignB k (lowV tx) = true then ((0, 0), 51)
  else if (kindV k tx nm).1 = 0 then ((0, 0), 50)
  else if goodV (kindV k tx nm).1 0 a = false then ((0, 0), 50)
  else if (kindV k tx nm).2 = 0 then (((kindV k tx nm).1, 0), 0)
  else measE nm (kindV k tx nm).1 (kindV k tx nm).2 a

theorem meas_is {num : ByteArray} {k sc a : Int} (h0 : goodV k 0 a = true) : measV num k sc a = measE num k sc a := by
  unfold measV scalV measE
  obtain ⟨n, e, hv⟩ : ∃ n e, valueV num sc = (n, e) := ⟨_, _, rfl⟩
  rw [hv]
  simp only
  by_cases e10 : e = 10
  · subst e10
    simp
  · by_cases e0 : e = 0
    · subst e0
      have h1 : (if (0 : Int) = 0 ∨ (0 : Int) = 10 then (n, (0 : Int)) else (0, 50)) = (n, 0) := by simp
      rw [h1]
      cases hg : goodV k n a
      · have hn0 : ¬ n = 0 := fun h => by rw [h, h0] at hg; cases hg
        by_cases hp : 0 < n
        · have hn : ¬ n < 0 := by omega
          simp [hp, hn]
          try (rw [hg]; simp)
        · have hn : n < 0 := by omega
          cases goodV k (-1) a <;> simp [hp, hn] <;> (try (rw [hg]; simp))
      · simp
    · have h1 : (if e = 0 ∨ e = 10 then (n, e) else (0, 50)) = (0, 50) := by simp [e0, e10]
      rw [h1]
      simp [e0, e10]
theorem rsize_is (k : Int) (tx nm : ByteArray) (a : Int) : rsizeV k tx nm a = sizeV k (lowV tx) nm a := by
  cases hf : foreignB k (lowV tx)
  · have hL : rsizeV k tx nm a = if (kindV k tx nm).1 = 0 then ((0, 0), 50) else if goodV (kindV k tx nm).1 0 a = false then ((0, 0), 50) else if (kindV k tx nm).2 = 0 then (((kindV k tx nm).1, 0), 0) else measE nm (kindV k tx nm).1 (kindV k tx nm).2 a := by
      unfold rsizeV; rw [if_neg (by rw [hf]; simp)]
    have hR : sizeV k (lowV tx) nm a = if k = 5 ∧ lowV tx = pxB then measV nm 2 64 a else if k = 3 ∧ nought nm = true then ((2, 0), 0) else if k = 4 ∧ hasB a 1 = true then measV nm 3 1000 a else if k = 5 ∧ lowV tx = frB ∧ hasB a 16 = true then measV nm 6 1000 a else if k = 1 then keyV (lowV tx) a else ((0, 0), 50) := by
      unfold sizeV; rw [if_neg (by rw [hf]; simp)]
    rw [hL, hR]
    clear hL hR
    by_cases h5 : k = 5
    · subst h5
      by_cases hp : lowV tx = pxB
      · have hk : kindV 5 tx nm = (2, 64) := by unfold kindV; simp [hp]
        have hg : goodV 2 0 a = true := by unfold goodV withinV; simp
        rw [hk, meas_is hg]
        simp [hp, hg]
      · by_cases hr : lowV tx = frB
        · have hn : ¬ frB = pxB := by decide
          have hk : kindV 5 tx nm = (6, 1000) := by unfold kindV; simp [hr, hn]
          have hg : goodV 6 0 a = hasB a 16 := by unfold goodV withinV; simp
          cases hb : hasB a 16
          · rw [hk]
            simp [hg, hr, hn, hb]
          · rw [hk, meas_is (k := 6) (by rw [hg, hb])]
            simp [hg, hr, hn, hb]
        · have hk : kindV 5 tx nm = (0, 0) := by unfold kindV; simp [hp, hr]
          rw [hk]
          simp [hp, hr]
    · by_cases h4 : k = 4
      · subst h4
        have hk : kindV 4 tx nm = (3, 1000) := by unfold kindV; simp
        have hg : goodV 3 0 a = hasB a 1 := by unfold goodV withinV; simp
        cases hb : hasB a 1
        · rw [hk]
          simp [hg, hb]
        · rw [hk, meas_is (k := 3) (by rw [hg, hb])]
          simp [hg, hb]
      · by_cases h3 : k = 3
        · subst h3
          cases hn : nought nm
          · have hk : kindV 3 tx nm = (0, 0) := by unfold kindV; simp [hn]
            rw [hk]
            simp
          · have hk : kindV 3 tx nm = (2, 0) := by unfold kindV; simp [hn]
            have hg : goodV 2 0 a = true := by unfold goodV withinV; simp
            rw [hk]
            simp [hg]
        · by_cases h1 : k = 1
          · subst h1
            unfold keyV
            have n1 : ¬ minB = autoB := by decide
            have n2 : ¬ maxB = autoB := by decide
            have n3 : ¬ maxB = minB := by decide
            have n4 : ¬ noneT = autoB := by decide
            have n5 : ¬ noneT = minB := by decide
            have n6 : ¬ noneT = maxB := by decide
            have g1 : goodV 1 0 a = hasB a 4 := by unfold goodV; simp
            have g4 : goodV 4 0 a = hasB a 8 := by unfold goodV; simp
            have g5 : goodV 5 0 a = hasB a 8 := by unfold goodV; simp
            have g7 : goodV 7 0 a = hasB a 32 := by unfold goodV; simp
            by_cases q1 : lowV tx = autoB
            · have hk : kindV 1 tx nm = (1, 0) := by unfold kindV; simp [q1]
              rw [hk, q1]
              cases hb : hasB a 4 <;> simp [g1, hb, Ne.symm n1, Ne.symm n2, Ne.symm n4]
            · by_cases q2 : lowV tx = minB
              · have hk : kindV 1 tx nm = (4, 0) := by unfold kindV; simp [q2, n1]
                rw [hk, q2]
                cases hb : hasB a 8 <;> simp [g4, hb, n1, Ne.symm n3, Ne.symm n5]
              · by_cases q3 : lowV tx = maxB
                · have hk : kindV 1 tx nm = (5, 0) := by unfold kindV; simp [q3, n2, n3]
                  rw [hk, q3]
                  cases hb : hasB a 8 <;> simp [g5, hb, n2, n3, Ne.symm n6]
                · by_cases q4 : lowV tx = noneT
                  · have hk : kindV 1 tx nm = (7, 0) := by unfold kindV; simp [q4, n4, n5, n6]
                    rw [hk, q4]
                    cases hb : hasB a 32 <;> simp [g7, hb, n4, n5, n6]
                  · have hk : kindV 1 tx nm = (0, 0) := by unfold kindV; simp [q1, q2, q3, q4]
                    rw [hk]
                    simp [q1, q2, q3, q4]
          · have hk : kindV k tx nm = (0, 0) := by unfold kindV; simp [h1, h3, h4, h5]
            rw [hk]
            simp [h1, h3, h4, h5]
  · unfold rsizeV sizeV
    rw [hf]
    simp

end Go.Proofs.YtcjmmblkcdpgoaaGreatDoor

/- The document's own readings. -/
namespace Go.Proofs.YtcjmmblkcdpgoaaGreatDoor
open Go.RowKit

/-- What the document's Read has made. -/
structure RdSt (w wr : World) (T : Nat) (k at_ : Int) (tx nm : ByteArray) : Prop where
  len : LenAt wr w.heap.size 0 0
  tk : TkAt T k at_ tx nm wr
  ne : w.heap.size < T
  bel : Below w.heap.size w wr
theorem RdSt.next {w w1 w2 : World} {T : Nat} {k at_ : Int} {tx nm : ByteArray} (h : RdSt w w1 T k at_ tx nm) (hb : Below w1.heap.size w1 w2) : RdSt w w2 T k at_ tx nm :=
  ⟨h.len.below hb h.len.lt, h.tk.below hb h.tk.lt, h.ne, h.bel.trans (hb.mono h.bel.size)⟩
theorem LenAt.set1 {w : World} {b : Nat} {k n : Int} (h : LenAt w b k n) (m : Int) : LenAt (w.setCell ⟨b, 1, none⟩ (.int .i64 m)) b k m := by
  have := cell_put (i := 1) (.int .i64 m) h
  exact this

set_option maxRecDepth 100000 in
set_option maxHeartbeats 8000000 in
theorem rread5_any (l : List Tk) (at_ a : Int) (v : Value) (w : World) (h : Tks w v l) (hl : Short l) (hnm : (tkV l at_).2.2.size ≤ 2000) :
    Calls Tryz.prog 10 #[v, .int .i64 at_, .int .i64 a] w fun e w' => e = .returned (readE (readL l at_ a)) ∧ Below w.heap.size w w' := by
  have hz := LenAt.new w 0 0
  have hb0 : Below w.heap.size w (w.alloc (.cells #[.int .i64 0, .int .i64 0] 27)) := (Below.refl _ w).alloc (Nat.le_refl _) _
  have cw := rword_any l at_ v (w.alloc (.cells #[.int .i64 0, .int .i64 0] 27)) (h.below hb0) hl.1
  have hr : readL l at_ a = if (szAt l at_ a).2 = 0 then ((szAt l at_ a).1, at_ + 1, 0) else ((0, 0), at_, (szAt l at_ a).2) := rfl
  have hin : (szAt l at_ a).2 = 0 → 0 ≤ at_ ∧ at_ < l.length := szAt_in
  have hll := hl.1
  have hsz := hl.at at_
  obtain ⟨ao, m, cap, rfl⟩ : ∃ ao m cap, v = .slice ao m cap := by
    rcases h.val with ⟨_, ao, cap, h⟩ | ⟨b, off, cap, h, _⟩
    · exact ⟨_, _, _, h⟩
    · exact ⟨_, _, _, h⟩
  obtain ⟨k, ax, tx, nm, htk⟩ : ∃ k ax tx nm, tkV l at_ = ((k, ax), tx, nm) := ⟨_, _, _, _, rfl⟩
  have hsv : szAt l at_ a = rsizeV k tx nm a := by rw [rsize_is]; unfold szAt; rw [htk]
  rw [hsv] at hr hin
  rw [htk] at cw hnm hsz
  simp only at hnm hsz
  have cfe := fun w => rfeature_any k ax tx nm w hsz.1
  have cki := fun w => rkind_any k ax tx nm w hsz.1 hsz.2
  have cgo := fun k n w => rgood_any k n a w
  have cva := fun sc w => rvalue_any nm sc w hnm
  have hrs : rsizeV k tx nm a = rsizeV k tx nm a := rfl
  conv at hrs => rhs; unfold rsizeV measE
  generalize rsizeV k tx nm a = RS at *
  generalize readL l at_ a = RL at *
  generalize foreignB k (lowV tx) = FB at *
  generalize kindV k tx nm = KV at *
  obtain ⟨kk, sc⟩ := KV
  simp only at hrs cki
  have CW := hide cw
  have CFE := hide cfe
  have CKI := hide cki
  have CGO := hide cgo
  have CVA := hide cva
  have HR := hide hr
  have HIN := hide hin
  have HRS := hide hrs
  have HZ := hide hz
  have HB0 := hide hb0
  unfold tkW tkA at CW
  unfold tkA at CFE CKI
  unfold lenA at CGO
  clear cw cfe cki cgo cva hr hin hrs hz hb0 h hl htk hsv hsz hnm
  go_enter Tryz.func10, Tryz.ntmps10
  go_wp2_with fail
  refine Calls.mono CW.out ?_
  rintro e0 w1 ⟨rfl, hb1⟩
  have hq := (Below.refl _ w1).alloc (Nat.le_refl _) (.cells #[.int .i64 k, .int .i64 ax, .string tx, .string nm] 25)
  have hB1 := (HB0.out).trans (hb1.mono (HB0.out).size)
  have hZ1 := (HZ.out).below hb1 (HZ.out).lt
  have ST0 : Hid (RdSt w (w1.alloc (.cells #[.int .i64 k, .int .i64 ax, .string tx, .string nm] 25)) w1.heap.size k ax tx nm) := hide ⟨hZ1.below hq hZ1.lt, TkAt.new w1 k ax tx nm, hZ1.lt, hB1.trans (hq.mono hB1.size)⟩
  clear hb1 hq hB1 hZ1 CW HZ HB0
  go_upto_region 2 with fail
  generalize w1.alloc (.cells #[.int .i64 k, .int .i64 ax, .string tx, .string nm] 25) = w2 at *
  generalize w1.heap.size = T at *
  have t0 := (ST0.out).tk.c0
  have t1 := (ST0.out).tk.c1
  have t2 := (ST0.out).tk.c2
  have t3 := (ST0.out).tk.c3
  go_wp2_with fail
  refine Calls.mono (unhide CFE _) ?_
  rintro e0 w3 ⟨rfl, hb⟩
  have ST := hide ((ST0.out).next hb)
  clear hb ST0 t0 t1 t2 t3 CFE
  cases FB
  · have hrs := HRS.out
    rw [if_neg (by simp)] at hrs
    have z0 := (ST.out).len.c0
    have z1 := (ST.out).len.c1
    have zz := (ST.out).len.z
    have t0 := (ST.out).tk.c0
    have t1 := (ST.out).tk.c1
    have t2 := (ST.out).tk.c2
    have t3 := (ST.out).tk.c3
    have hne := (ST.out).ne
    have hne1 : ¬ w.heap.size = T := by omega
    have hne2 : ¬ T = w.heap.size := by omega
    go_wp2_with fail
    refine Calls.mono (unhide CKI _) ?_
    rintro e0 w4 ⟨rfl, hb⟩
    have hq := hb.alloc hb.size (.cells #[.int .i64 kk, .int .i64 0] 27)
    have ST2 := hide ((ST.out).next hq)
    have LV := hide (LenAt.new w4 kk 0)
    have hVT : T < w4.heap.size := Nat.lt_of_lt_of_le (ST.out).tk.lt hb.size
    clear ST CKI hb hq z0 z1 zz t0 t1 t2 t3 HRS
    go_upto_region 6 with fail
    generalize w4.alloc (.cells #[.int .i64 kk, .int .i64 0] 27) = w5 at *
    generalize w4.heap.size = V at *
    have hne3 : ¬ w.heap.size = V := by omega
    have hne4 : ¬ V = w.heap.size := by omega
    have hne5 : ¬ T = V := by omega
    have v0 := (LV.out).c0
    have v1 := (LV.out).c1
    rcases eqk kk 0 with ⟨hk0, hk0b⟩ | ⟨hk0, hk0b⟩
    · have hv := hrs
      rw [if_pos hk0] at hv
      subst hk0
      have ST := ST2
      have z0 := (ST.out).len.c0
      have z1 := (ST.out).len.c1
      have zz := (ST.out).len.z
      have t3 := (ST.out).tk.c3
      have hx := HR.out
      rw [hv] at hx
      rw [if_neg (by decide)] at hx
      simp only at hx
      have HV := hide hx
      clear hv hx HR HIN
      clear hrs CGO CVA ST2 hk0b
      go_wp2_with fail
      refine bodyPost_ret (v := readE RL) (by rw [HV.out]; simp [results, Tryz.results10, go_sem, z0, z1, readE, lenA]) rfl ⟨rfl, below_two (ST.out).bel (Nat.le_refl _) _ _⟩
    · have cg0 := fun w => unhide CGO kk 0 w
      cases hg0 : goodV kk 0 a
      · rw [hg0] at cg0
        have CG0 := hide cg0
        clear cg0
        go_wp2_with fail
        refine Calls.mono (unhide CG0 _) ?_
        rintro e0 w6 ⟨rfl, hb⟩
        have ST := hide ((ST2.out).next hb)
        have LVx := hide ((LV.out).below hb (LV.out).lt)
        clear hb ST2 LV CG0 v0 v1
        have z0 := (ST.out).len.c0
        have z1 := (ST.out).len.c1
        have zz := (ST.out).len.z
        have t3 := (ST.out).tk.c3
        have v0 := (LVx.out).c0
        have v1 := (LVx.out).c1
        have vz := (LVx.out).z
        have hv := hrs
        rw [if_neg hk0, if_pos hg0] at hv
        have hx := HR.out
        rw [hv] at hx
        rw [if_neg (by decide)] at hx
        simp only at hx
        have HV := hide hx
        clear hv hx HR HIN
        clear hrs CGO CVA hg0
        go_wp2_with fail
        refine bodyPost_ret (v := readE RL) (by rw [HV.out]; simp [results, Tryz.results10, go_sem, z0, z1, readE, lenA]) rfl ⟨rfl, below_two (ST.out).bel (Nat.le_refl _) _ _⟩
      · rw [hg0] at cg0
        have CG0 := hide cg0
        clear cg0
        go_wp2_with fail
        refine Calls.mono (unhide CG0 _) ?_
        rintro e0 w6 ⟨rfl, hb⟩
        have ST := hide ((ST2.out).next hb)
        have LVx := hide ((LV.out).below hb (LV.out).lt)
        clear hb ST2 LV CG0 v0 v1
        have z0 := (ST.out).len.c0
        have z1 := (ST.out).len.c1
        have zz := (ST.out).len.z
        have t3 := (ST.out).tk.c3
        have v0 := (LVx.out).c0
        have v1 := (LVx.out).c1
        have vz := (LVx.out).z
        rw [if_neg hk0, if_neg (by rw [hg0]; simp)] at hrs
        clear hg0
        rcases eqk sc 0 with ⟨hs0, hs0b⟩ | ⟨hs0, hs0b⟩
        · have hv := hrs
          rw [if_pos hs0] at hv
          subst hs0
          have hi := (HIN.out) (by rw [hv])
          have hi1 : at_ + 1 < 9223372036854775807 := by omega
          have hi0 : 0 ≤ at_ := hi.1
          have hx := HR.out
          rw [hv] at hx
          simp only [if_true] at hx
          have HV := hide hx
          clear hi hv hx HR HIN
          clear hrs CGO CVA hs0b
          go_wp2_with fail
          refine bodyPost_ret (v := readE RL) (by rw [HV.out]; simp [results, Tryz.results10, go_sem, z0, z1, readE, lenA]) rfl ⟨rfl, below_two (ST.out).bel (Nat.le_refl _) _ _⟩
        · rw [if_neg hs0] at hrs
          go_wp2_with fail
          refine Calls.mono (unhide CVA sc _) ?_
          rintro e0 w7 ⟨rfl, hb⟩
          have ST' := hide ((ST.out).next hb)
          have LV' := hide ((LVx.out).below hb (LVx.out).lt)
          clear hb ST LVx CVA z0 z1 zz t3 v0 v1 vz
          have ST := ST'
          have LVx := LV'
          clear ST' LV'
          have z0 := (ST.out).len.c0
          have z1 := (ST.out).len.c1
          have zz := (ST.out).len.z
          have t3 := (ST.out).tk.c3
          have v0 := (LVx.out).c0
          have v1 := (LVx.out).c1
          have vz := (LVx.out).z
          generalize (valueV nm sc).1 = n at *
          generalize (valueV nm sc).2 = er at *
          rcases eqk er 10 with ⟨h10, h10b⟩ | ⟨h10, h10b⟩
          · subst h10
            have hv := hrs
            rw [if_pos rfl] at hv
            have hx := HR.out
            rw [hv] at hx
            rw [if_neg (by decide)] at hx
            simp only at hx
            have HV := hide hx
            clear hv hx HR HIN
            clear hrs CGO h10b
            go_wp2_with fail
            refine bodyPost_ret (v := readE RL) (by rw [HV.out]; simp [results, Tryz.results10, go_sem, z0, z1, readE, lenA]) rfl ⟨rfl, below_two (ST.out).bel (Nat.le_refl _) _ _⟩
          · rw [if_neg h10] at hrs
            rcases eqk er 0 with ⟨he0, he0b⟩ | ⟨he0, he0b⟩
            · subst he0
              rw [if_neg (by simp)] at hrs
              have LVn := hide (LenAt.set1 LVx.out n)
              have hset := (Below.refl V w7).setCell (p := ⟨V, 1, none⟩) (Nat.le_refl _) (.int .i64 n)
              have hTV : T < V := hVT
              have STn : Hid (RdSt w (w7.setCell ⟨V, 1, none⟩ (.int .i64 n)) T k ax tx nm) := hide ⟨(ST.out).len.below hset (by have := (ST.out).ne; omega), (ST.out).tk.below hset hTV, (ST.out).ne, (ST.out).bel.setCell (p := ⟨V, 1, none⟩) (by show w.heap.size ≤ V; have := (ST.out).ne; omega) _⟩
              clear hset
              go_upto_region 16 with fail
              generalize w7.setCell ⟨V, 1, none⟩ (.int .i64 n) = w8 at *
              clear ST LVx z0 z1 zz t3 v0 v1 vz
              have v0 := (LVn.out).c0
              have v1 := (LVn.out).c1
              have cgn := fun w => unhide CGO kk n w
              cases hgn : goodV kk n a
              · rw [hgn] at cgn
                have CGN := hide cgn
                clear cgn
                go_wp2_with fail
                refine Calls.mono (unhide CGN _) ?_
                rintro e0 w9 ⟨rfl, hb⟩
                have ST := hide ((STn.out).next hb)
                have LVx := hide ((LVn.out).below hb (LVn.out).lt)
                clear hb STn LVn CGN v0 v1
                have z0 := (ST.out).len.c0
                have z1 := (ST.out).len.c1
                have zz := (ST.out).len.z
                have t3 := (ST.out).tk.c3
                have v0 := (LVx.out).c0
                have v1 := (LVx.out).c1
                have vz := (LVx.out).z
                rw [if_neg (by rw [hgn]; simp)] at hrs
                clear hgn
                by_cases hp : 0 < n
                · have hv := hrs
                  rw [if_pos hp] at hv
                  have hx := HR.out
                  rw [hv] at hx
                  rw [if_neg (by decide)] at hx
                  simp only at hx
                  have HV := hide hx
                  clear hv hx HR HIN
                  clear hrs CGO
                  go_wp2_with fail
                  refine bodyPost_ret (v := readE RL) (by rw [HV.out]; simp [results, Tryz.results10, go_sem, z0, z1, readE, lenA]) rfl ⟨rfl, below_two (ST.out).bel (Nat.le_refl _) _ _⟩
                · rw [if_neg hp] at hrs
                  have cgm := fun w => unhide CGO kk (-1) w
                  cases hgm : goodV kk (-1) a
                  · rw [hgm] at cgm
                    have CGM := hide cgm
                    clear cgm
                    go_wp2_with fail
                    refine Calls.mono (unhide CGM _) ?_
                    rintro e0 w10 ⟨rfl, hb⟩
                    have ST' := hide ((ST.out).next hb)
                    clear hb ST CGM z0 z1 zz t3 v0 v1 vz
                    have ST := ST'
                    clear ST'
                    have z0 := (ST.out).len.c0
                    have z1 := (ST.out).len.c1
                    have zz := (ST.out).len.z
                    have t3 := (ST.out).tk.c3
                    have hv := hrs
                    rw [if_neg (by rw [hgm]; simp)] at hv
                    have hx := HR.out
                    rw [hv] at hx
                    rw [if_neg (by decide)] at hx
                    simp only at hx
                    have HV := hide hx
                    clear hv hx HR HIN
                    clear hrs CGO hgm
                    go_wp2_with fail
                    refine bodyPost_ret (v := readE RL) (by rw [HV.out]; simp [results, Tryz.results10, go_sem, z0, z1, readE, lenA]) rfl ⟨rfl, below_two (ST.out).bel (Nat.le_refl _) _ _⟩
                  · rw [hgm] at cgm
                    have CGM := hide cgm
                    clear cgm
                    go_wp2_with fail
                    refine Calls.mono (unhide CGM _) ?_
                    rintro e0 w10 ⟨rfl, hb⟩
                    have ST' := hide ((ST.out).next hb)
                    clear hb ST CGM z0 z1 zz t3 v0 v1 vz
                    have ST := ST'
                    clear ST'
                    have z0 := (ST.out).len.c0
                    have z1 := (ST.out).len.c1
                    have zz := (ST.out).len.z
                    have t3 := (ST.out).tk.c3
                    have hv := hrs
                    rw [if_pos hgm] at hv
                    have hx := HR.out
                    rw [hv] at hx
                    rw [if_neg (by decide)] at hx
                    simp only at hx
                    have HV := hide hx
                    clear hv hx HR HIN
                    clear hrs CGO hgm
                    go_wp2_with fail
                    refine bodyPost_ret (v := readE RL) (by rw [HV.out]; simp [results, Tryz.results10, go_sem, z0, z1, readE, lenA]) rfl ⟨rfl, below_two (ST.out).bel (Nat.le_refl _) _ _⟩
              · rw [hgn] at cgn
                have CGN := hide cgn
                clear cgn
                go_wp2_with fail
                refine Calls.mono (unhide CGN _) ?_
                rintro e0 w9 ⟨rfl, hb⟩
                have ST := hide ((STn.out).next hb)
                have LVx := hide ((LVn.out).below hb (LVn.out).lt)
                clear hb STn LVn CGN v0 v1
                have z0 := (ST.out).len.c0
                have z1 := (ST.out).len.c1
                have zz := (ST.out).len.z
                have t3 := (ST.out).tk.c3
                have v0 := (LVx.out).c0
                have v1 := (LVx.out).c1
                have vz := (LVx.out).z
                have hv := hrs
                rw [if_pos hgn] at hv
                have hi := (HIN.out) (by rw [hv])
                have hi1 : at_ + 1 < 9223372036854775807 := by omega
                have hi0 : 0 ≤ at_ := hi.1
                have hx := HR.out
                rw [hv] at hx
                simp only [if_true] at hx
                have HV := hide hx
                clear hi hv hx HR HIN
                clear hrs CGO hgn
                go_wp2_with fail
                refine bodyPost_ret (v := readE RL) (by rw [HV.out]; simp [results, Tryz.results10, go_sem, z0, z1, readE, lenA]) rfl ⟨rfl, below_two (ST.out).bel (Nat.le_refl _) _ _⟩
            · have hn0 : (er != 0) = true := by rw [bne, he0b]; rfl
              have hv := hrs
              rw [if_pos he0] at hv
              have hx := HR.out
              rw [hv] at hx
              rw [if_neg (by decide)] at hx
              simp only at hx
              have HV := hide hx
              clear hv hx HR HIN
              clear hrs CGO
              go_wp2_with fail
              refine bodyPost_ret (v := readE RL) (by rw [HV.out]; simp [results, Tryz.results10, go_sem, z0, z1, readE, lenA]) rfl ⟨rfl, below_two (ST.out).bel (Nat.le_refl _) _ _⟩
  · have hv := HRS.out
    rw [if_pos rfl] at hv
    have z0 := (ST.out).len.c0
    have z1 := (ST.out).len.c1
    have zz := (ST.out).len.z
    have t0 := (ST.out).tk.c0
    have t1 := (ST.out).tk.c1
    have t2 := (ST.out).tk.c2
    have t3 := (ST.out).tk.c3
    have hne := (ST.out).ne
    have hne1 : ¬ w.heap.size = T := by omega
    have hne2 : ¬ T = w.heap.size := by omega
    have hx := HR.out
    rw [hv] at hx
    rw [if_neg (by decide)] at hx
    simp only at hx
    have HV := hide hx
    clear hv hx HR HIN
    clear HRS CKI CGO CVA
    go_wp2_with fail
    refine bodyPost_ret (v := readE RL) (by rw [HV.out]; simp [results, Tryz.results10, go_sem, z0, z1, readE, lenA]) rfl ⟨rfl, below_two (ST.out).bel (Nat.le_refl _) _ _⟩

end Go.Proofs.YtcjmmblkcdpgoaaGreatDoor

/- The document's own whole numbers, keywords and signs. -/
namespace Go.Proofs.YtcjmmblkcdpgoaaGreatDoor
open Go.RowKit

set_option maxRecDepth 100000 in
set_option maxHeartbeats 4000000 in
theorem rsign5_any (l : List Tk) (at_ : Int) (s : ByteArray) (v : Value) (w : World) (h : Tks w v l) (hl : Short l) :
    Calls Tryz.prog 16 #[v, .int .i64 at_, .string s] w fun e w' => e = .returned (.bool (signV l at_ s)) ∧ Below w.heap.size w w' := by
  have cw := rword_any l at_ v w h hl.1
  obtain ⟨ao, m, cap, rfl⟩ : ∃ ao m cap, v = .slice ao m cap := by
    rcases h.val with ⟨_, ao, cap, h⟩ | ⟨b, off, cap, h, _⟩
    · exact ⟨_, _, _, h⟩
    · exact ⟨_, _, _, h⟩
  unfold signV
  obtain ⟨k, a, tx, nm, htk⟩ : ∃ k a tx nm, tkV l at_ = ((k, a), tx, nm) := ⟨_, _, _, _, rfl⟩
  rw [htk] at cw ⊢
  have CW := hide cw
  unfold tkW tkA at CW
  clear cw h hl htk
  rcases eqk k 7 with ⟨h1, h1b⟩ | ⟨h1, h1b⟩
  · subst h1
    go_enter Tryz.func16, Tryz.ntmps16
    go_wp2_with fail
    refine Calls.mono CW.out ?_
    rintro e w1 ⟨rfl, hb1⟩
    have hT := TkAt.new w1 7 a tx nm
    have t0 := hT.c0
    have t2 := hT.c2
    have HB1 := hide (hb1.alloc hb1.size (.cells #[.int .i64 7, .int .i64 a, .string tx, .string nm] 25))
    clear hb1 CW hT
    go_wp2_with fail
    go_ret
    exact ⟨by simp, HB1.out⟩
  · have hd : decide (k = 7) = false := by simp [h1]
    rw [hd]
    go_enter Tryz.func16, Tryz.ntmps16
    go_wp2_with fail
    refine Calls.mono CW.out ?_
    rintro e w1 ⟨rfl, hb1⟩
    have hT := TkAt.new w1 k a tx nm
    have t0 := hT.c0
    have t2 := hT.c2
    have HB1 := hide (hb1.alloc hb1.size (.cells #[.int .i64 k, .int .i64 a, .string tx, .string nm] 25))
    clear hb1 CW hT h1 hd
    go_wp2_with fail
    go_ret
    exact ⟨by simp, HB1.out⟩

/-- What the document's Keyword keeps. -/
structure KySt (w wr : World) (T b : Nat) (k at_ : Int) (tx nm : ByteArray) (zs : List ByteArray) : Prop where
  tk : TkAt T k at_ tx nm wr
  txs : TxAt wr b zs
  lt : b < wr.heap.size
  bel : Below w.heap.size w wr
theorem KySt.next {w w1 w2 : World} {T b : Nat} {k at_ : Int} {tx nm : ByteArray} {zs : List ByteArray} (h : KySt w w1 T b k at_ tx nm zs) (hb : Below w1.heap.size w1 w2) : KySt w w2 T b k at_ tx nm zs :=
  ⟨h.tk.below hb h.tk.lt, h.txs.below hb h.lt, Nat.lt_of_lt_of_le h.lt hb.size, h.bel.trans (hb.mono h.bel.size)⟩
theorem KySt.cell {w wr : World} {T b : Nat} {k at_ : Int} {tx nm : ByteArray} {zs : List ByteArray} (h : KySt w wr T b k at_ tx nm zs) (j : Nat) (hj : j < zs.length) : wr.cell? ⟨b, j, none⟩ = some (.string (zs.getD j ByteArray.empty)) := by
  have := h.txs j hj
  rwa [Nat.zero_add] at this

set_option maxRecDepth 100000 in
set_option maxHeartbeats 8000000 in
theorem rkeyword_any (l : List Tk) (at_ : Int) (zs : List ByteArray) (b n : Nat) (v : Value) (w : World) (h : Tks w v l) (hl : Short l) (ht : TxAt w b zs) (hlt : b < w.heap.size) (hn : n = zs.length) (hz : zs.length ≤ 1000) (hzs : ∀ j, j < zs.length → (zs.getD j ByteArray.empty).size ≤ 140737488351232) :
    Calls Tryz.prog 14 #[v, .int .i64 at_, .slice (some ⟨b, 0, none⟩) n n] w fun e w' => e = .returned (.tuple #[.int .i64 (keywV l at_ zs).1, .int .i64 (keywV l at_ zs).2]) ∧ Below w.heap.size w w' := by
  subst hn
  have cw := rword_any l at_ v w h hl.1
  have hsz := (hl.at at_).1
  have hkv : keywV l at_ zs = if idxP (kwP l at_) zs < 0 then (-1, at_) else (idxP (kwP l at_) zs, at_ + 1) := rfl
  have hin : ¬ idxP (kwP l at_) zs < 0 → 0 ≤ at_ ∧ at_ < l.length := fun h0 => tk_in (fun h8 => h0 (by
    rw [idxP_false zs (fun z => by unfold kwP; rw [h8]; rfl)]; decide))
  have hll := hl.1
  obtain ⟨ao, m, cap, rfl⟩ : ∃ ao m cap, v = .slice ao m cap := by
    rcases h.val with ⟨_, ao, cap, h⟩ | ⟨b, off, cap, h, _⟩
    · exact ⟨_, _, _, h⟩
    · exact ⟨_, _, _, h⟩
  obtain ⟨k, ax, tx, nm, htk⟩ : ∃ k ax tx nm, tkV l at_ = ((k, ax), tx, nm) := ⟨_, _, _, _, rfl⟩
  have hp : kwP l at_ = fun z => decide (k = 1) && isB tx z := by funext z; unfold kwP; rw [htk]
  rw [htk] at cw hsz
  have ci : ∀ (j : Nat) (w' : World), j < zs.length → Calls Tryz.prog 47 #[.string tx, .string (zs.getD j ByteArray.empty)] w' fun e w'' => e = .returned (.bool (isB tx (zs.getD j ByteArray.empty))) ∧ Below w'.heap.size w' w'' := fun j w' hj => ris4_big tx _ w' (Nat.le_trans hsz (by decide)) (hzs j hj)
  have hpk : ∀ z, kwP l at_ z = (decide (k = 1) && isB tx z) := fun z => by rw [hp]
  generalize kwP l at_ = P at *
  have CW := hide cw
  have CI := hide ci
  have HKV := hide hkv
  have HIN := hide hin
  have HPK := hide hpk
  have HT := hide ht
  unfold tkW tkA at CW
  clear cw ci hkv hin h ht hl htk hp hsz hzs hpk
  go_enter Tryz.func14, Tryz.ntmps14
  go_wp2_with fail
  refine Calls.mono CW.out ?_
  rintro e w1 ⟨rfl, hb1⟩
  have hq := (Below.refl _ w1).alloc (Nat.le_refl _) (.cells #[.int .i64 k, .int .i64 ax, .string tx, .string nm] 25)
  have hB := hb1.trans (hq.mono hb1.size)
  have ST0 : Hid (KySt w (w1.alloc (.cells #[.int .i64 k, .int .i64 ax, .string tx, .string nm] 25)) w1.heap.size b k ax tx nm zs) := hide ⟨TkAt.new w1 k ax tx nm, (HT.out).below hB hlt, Nat.lt_of_lt_of_le hlt hB.size, hB⟩
  clear hb1 hq hB CW HT
  go_upto_region 2 with fail
  generalize w1.alloc (.cells #[.int .i64 k, .int .i64 ax, .string tx, .string nm] 25) = w2 at *
  generalize w1.heap.size = T at *
  go_wp2_with fail
  go_loopw [9] (fun i wr => ∃ j : Nat, j ≤ zs.length ∧ i = .int .i64 (j : Int) ∧ Hid (∀ i, i < j → P (zs.getD i ByteArray.empty) = false) ∧ Hid (KySt w wr T b k ax tx nm zs)) (fun i _ => ((zs.length : Int) - intOf i).toNat)
  case atStart => exact ⟨0, Nat.zero_le _, by go_num, hide (fun i hi => absurd hi (by omega)), ST0⟩
  case round =>
    clear ST0
    obtain ⟨j, hj, rfl, HN, ST⟩ := hrel
    by_cases hlk : j < zs.length
    · have hi : (j : Int) < (zs.length : Int) := by omega
      have hcell := (ST.out).cell j hlk
      have t0 := (ST.out).tk.c0
      have t2 := (ST.out).tk.c2
      have STd : Hid (KySt w wr.drew T b k ax tx nm zs) := hide ((ST.out).next (Below.refl _ wr).drew)
      have dcell := (STd.out).cell j hlk
      have d0 := (STd.out).tk.c0
      have d2 := (STd.out).tk.c2
      have hpz := HPK.out (zs.getD j ByteArray.empty)
      have hiv : (0 : Int) ≤ (j : Int) := by omega
      rcases eqk k 1 with ⟨h1, h1b⟩ | ⟨h1, h1b⟩
      · subst h1
        have cc : ∀ w', KySt w w' T b 1 ax tx nm zs → Calls Tryz.prog 47 #[.string tx, .string (zs.getD j ByteArray.empty)] w' fun e w'' => e = .returned (.bool (isB tx (zs.getD j ByteArray.empty))) ∧ KySt w w'' T b 1 ax tx nm zs := fun w' h => (unhide CI j w' hlk).mono fun _ _ hh => ⟨hh.1, h.next hh.2⟩
        have hpz2 : P (zs.getD j ByteArray.empty) = isB tx (zs.getD j ByteArray.empty) := by rw [hpz]; simp
        have HCL : Hid (∀ w', KySt w w' T b 1 ax tx nm zs → w'.cell? ⟨b, j, none⟩ = some (.string (zs.getD j ByteArray.empty))) := hide (fun w' h => h.cell j hlk)
        cases hq : isB tx (zs.getD j ByteArray.empty)
        · rw [hq] at cc hpz2
          have HN2 : Hid (∀ i, i < j + 1 → P (zs.getD i ByteArray.empty) = false) := hide (fun i hi => by
            rcases Nat.lt_or_ge i j with h | h
            · exact (HN.out) i h
            · obtain rfl : i = j := by omega
              exact hpz2)
          generalize zs.getD j ByteArray.empty = z at *
          have CC := hide cc
          clear cc hpz hpz2 hq HN CI HKV HIN HPK h1b
          go_upto_region 5 with fail
          clear ST hcell t0 t2
          go_region_held3 (fun w' => w'.cell? ⟨T, 0, none⟩ = some (.int .i64 1) ∧ w'.cell? ⟨T, 2, none⟩ = some (.string tx) ∧ w'.cell? ⟨b, j, none⟩ = some (.string z) ∧ Hid (KySt w w' T b 1 ax tx nm zs))
            (first | exact ⟨by assumption, by assumption, by assumption, by assumption⟩ | go_keep)
            (first
              | (go_at_call 47; refine (unhide CC _ (by assumption : Hid (KySt w _ T b 1 ax tx nm zs)).out).mono ?_; rintro e w' ⟨rfl, hq⟩; have hq0 := hq.tk.c0; have hq2 := hq.tk.c2; have hqz := (HCL.out) _ hq; have HQ := hide hq; clear hq))
          go_wp2_with fail
          go_round
          case rel => exact ⟨j + 1, by omega, by go_num, HN2, by assumption⟩
          case measure => simp [intOf]; omega
        · rw [hq] at cc hpz2
          have HV := hide (idxP_hit HN.out hlk hpz2)
          generalize zs.getD j ByteArray.empty = z at *
          have hkv2 := HKV.out
          rw [HV.out, if_neg (by omega)] at hkv2
          have hi2 := (HIN.out) (by rw [HV.out]; omega)
          have hi3 : at_ + 1 < 9223372036854775807 := by omega
          have hi0 : 0 ≤ at_ := hi2.1
          have HKV2 := hide hkv2
          have CC := hide cc
          clear cc hpz hpz2 hq HN CI HKV HIN HPK h1b hi2 hkv2
          go_upto_region 5 with fail
          clear ST hcell t0 t2
          go_region_held3 (fun w' => w'.cell? ⟨T, 0, none⟩ = some (.int .i64 1) ∧ w'.cell? ⟨T, 2, none⟩ = some (.string tx) ∧ w'.cell? ⟨b, j, none⟩ = some (.string z) ∧ Hid (KySt w w' T b 1 ax tx nm zs))
            (first | exact ⟨by assumption, by assumption, by assumption, by assumption⟩ | go_keep)
            (first
              | (go_at_call 47; refine (unhide CC _ (by assumption : Hid (KySt w _ T b 1 ax tx nm zs)).out).mono ?_; rintro e w' ⟨rfl, hq⟩; have hq0 := hq.tk.c0; have hq2 := hq.tk.c2; have hqz := (HCL.out) _ hq; have HQ := hide hq; clear hq))
          go_wp2_with fail
          go_ret2
          exact ⟨by rw [HKV2.out] <;> rfl, (by assumption : Hid (KySt w _ T b 1 ax tx nm zs)).out.bel⟩
      · have hd : decide (k = 1) = false := by simp [h1]
        rw [hd, Bool.false_and] at hpz
        have HN2 : Hid (∀ i, i < j + 1 → P (zs.getD i ByteArray.empty) = false) := hide (fun i hi => by
          rcases Nat.lt_or_ge i j with h | h
          · exact (HN.out) i h
          · obtain rfl : i = j := by omega
            exact hpz)
        clear hpz HN CI HKV HIN HPK h1 hd
        go_upto_region 5 with fail
        go_quiet (fail)
        go_wp2_with fail
        go_round
        case rel => exact ⟨j + 1, by omega, by go_num, HN2, hide ((ST.out).next (drw _ _ _))⟩
        case measure => simp [intOf]; omega
    · have hi : ¬ (j : Int) < (zs.length : Int) := by omega
      obtain rfl : j = zs.length := by omega
      have hkv := HKV.out
      rw [idxP_none HN.out, if_pos (by decide)] at hkv
      have HV := hide hkv
      clear hkv HKV HN HIN
      go_wp2_with fail
      go_ret2
      exact ⟨by rw [HV.out] <;> rfl, (ST.out).bel⟩

theorem not_dee {c : UInt8} (h0 : ¬ (c.toNat : Int) = 46) (h1 : ¬ (c.toNat : Int) = 101) (h2 : ¬ (c.toNat : Int) = 69) : [(46 : UInt8), 101, 69].contains c = false := by
  have e0 : (c == 46) = false := by rw [beq_eq_false_iff_ne]; intro e; rw [e] at h0; exact h0 rfl
  have e1 : (c == 101) = false := by rw [beq_eq_false_iff_ne]; intro e; rw [e] at h1; exact h1 rfl
  have e2 : (c == 69) = false := by rw [beq_eq_false_iff_ne]; intro e; rw [e] at h2; exact h2 rfl
  simp [List.contains, List.elem, e0, e1, e2]
theorem is_dee {c : UInt8} (h : (c.toNat : Int) = 46 ∨ (c.toNat : Int) = 101 ∨ (c.toNat : Int) = 69) : [(46 : UInt8), 101, 69].contains c = true := by
  have : c = 46 ∨ c = 101 ∨ c = 69 := by
    rcases h with h | h | h
    · exact .inl (UInt8.toNat_inj.1 (by simp; omega))
    · exact .inr (.inl (UInt8.toNat_inj.1 (by simp; omega)))
    · exact .inr (.inr (UInt8.toNat_inj.1 (by simp; omega)))
  rcases this with rfl | rfl | rfl <;> decide
theorem dee_hit {s : ByteArray} {k : Nat} (hk : k < s.size) (hn : Lib.NoAny s.data.toList [46, 101, 69] k) (h : (s[k].toNat : Int) = 46 ∨ (s[k].toNat : Int) = 101 ∨ (s[k].toNat : Int) = 69) : deeB s = true := by
  unfold deeB
  rw [Lib.indexAny_hit hn (Lib.data_getElem? s k hk) (is_dee h)]
  simp
theorem dee_none {s : ByteArray} (hn : Lib.NoAny s.data.toList [46, 101, 69] s.size) : deeB s = false := by
  unfold deeB
  rw [Lib.indexAny_none (fun j b hj hb => hn j b (by simp at hj; omega) hb)]
  decide

set_option maxRecDepth 100000 in
set_option maxHeartbeats 8000000 in
theorem rinteger_any (l : List Tk) (at_ : Int) (v : Value) (w : World) (h : Tks w v l) (hl : Short l) (hnm : (tkV l at_).2.2.size ≤ 2000) :
    Calls Tryz.prog 12 #[v, .int .i64 at_] w fun e w' => e = .returned (.tuple #[.int .i64 (intV l at_).1, .int .i64 (intV l at_).2.1, .int .i64 (intV l at_).2.2]) ∧ Below w.heap.size w w' := by
  have cw := rword_any l at_ v w h hl.1
  have hll := hl.1
  have hiv : intV l at_ = if ¬ (tkV l at_).1.1 = 3 then (0, at_, 50) else if deeB (tkV l at_).2.2 = true then (0, at_, 50) else if (scalV (tkV l at_).2.2 1).2 = 0 then ((scalV (tkV l at_).2.2 1).1, at_ + 1, 0) else (0, at_, (scalV (tkV l at_).2.2 1).2) := rfl
  have hin : (tkV l at_).1.1 = 3 → 0 ≤ at_ ∧ at_ < l.length := fun h3 => tk_in (by rw [h3]; decide)
  obtain ⟨ao, m, cap, rfl⟩ : ∃ ao m cap, v = .slice ao m cap := by
    rcases h.val with ⟨_, ao, cap, h⟩ | ⟨b, off, cap, h, _⟩
    · exact ⟨_, _, _, h⟩
    · exact ⟨_, _, _, h⟩
  obtain ⟨k, ax, tx, nm, htk⟩ : ∃ k ax tx nm, tkV l at_ = ((k, ax), tx, nm) := ⟨_, _, _, _, rfl⟩
  rw [htk] at cw hiv hin hnm
  simp only at hiv hin hnm
  have cs := fun w => rvalue_any nm 1 w hnm
  have hsc : scalV nm 1 = if (valueV nm 1).2 = 0 ∨ (valueV nm 1).2 = 10 then valueV nm 1 else (0, 50) := rfl
  generalize intV l at_ = IV at *
  generalize scalV nm 1 = SV at *
  obtain ⟨n, er, hval⟩ : ∃ n er, valueV nm 1 = (n, er) := ⟨_, _, rfl⟩
  rw [hval] at cs hsc
  simp only at cs hsc
  have CW := hide cw
  have CS := hide cs
  have HIV := hide hiv
  have HSC := hide hsc
  unfold tkW tkA at CW
  clear cw h hl htk hiv cs hval hsc
  rcases eqk k 3 with ⟨h1, h1b⟩ | ⟨h1, h1b⟩
  · subst h1
    have hi := hin rfl
    have hi1 : at_ + 1 < 9223372036854775807 := by omega
    have hi0 : 0 ≤ at_ := hi.1
    clear hin hi
    go_enter Tryz.func12, Tryz.ntmps12
    go_wp2_with fail
    refine Calls.mono CW.out ?_
    rintro e w1 ⟨rfl, hb1⟩
    have HT := hide (TkAt.new w1 3 ax tx nm)
    have HB := hide (hb1.alloc hb1.size (.cells #[.int .i64 3, .int .i64 ax, .string tx, .string nm] 25))
    clear hb1 CW
    go_upto_region 2 with fail
    generalize w1.alloc (.cells #[.int .i64 3, .int .i64 ax, .string tx, .string nm] 25) = w2 at *
    generalize w1.heap.size = T at *
    have t0 := (HT.out).c0
    have t3 := (HT.out).c3
    go_wp2_with fail
    go_loopw [8] (fun i wr => ∃ j : Nat, j ≤ nm.size ∧ i = .int .i64 (j : Int) ∧ Hid (Lib.NoAny nm.data.toList [46, 101, 69] j) ∧ w2 = wr) (fun i _ => ((nm.size : Int) - intOf i).toNat)
    case atStart => exact ⟨0, Nat.zero_le _, by go_num, hide (Lib.NoAny.zero _ _), rfl⟩
    case round =>
      obtain ⟨j, hj, rfl, HN, rfl⟩ := hrel
      by_cases hlk : j < nm.size
      · have hi : (j : Int) < (nm.size : Int) := by omega
        rcases eqb (nm[j].toNat : Int) 46 with ⟨g0, g0b⟩ | ⟨g0, g0b⟩
        · have hv := HIV.out
          rw [if_neg (by simp), if_pos (dee_hit hlk HN.out (.inl g0))] at hv
          have HV := hide hv
          clear hv HIV HN CS HSC
          go_wp2_with fail
          go_ret3
          exact ⟨by rw [HV.out] <;> rfl, HB.out⟩
        · rcases eqb (nm[j].toNat : Int) 101 with ⟨g1, g1b⟩ | ⟨g1, g1b⟩
          · have hv := HIV.out
            rw [if_neg (by simp), if_pos (dee_hit hlk HN.out (.inr (.inl g1)))] at hv
            have HV := hide hv
            clear hv HIV HN CS HSC
            go_wp2_with fail
            go_ret3
            exact ⟨by rw [HV.out] <;> rfl, HB.out⟩
          · rcases eqb (nm[j].toNat : Int) 69 with ⟨g2, g2b⟩ | ⟨g2, g2b⟩
            · have hv := HIV.out
              rw [if_neg (by simp), if_pos (dee_hit hlk HN.out (.inr (.inr g2)))] at hv
              have HV := hide hv
              clear hv HIV HN CS HSC
              go_wp2_with fail
              go_ret3
              exact ⟨by rw [HV.out] <;> rfl, HB.out⟩
            · have HN2 := hide ((HN.out).succ (Lib.data_getElem? nm j hlk) (not_dee g0 g1 g2))
              clear HN
              go_wp2_with fail
              go_round
              case rel => exact ⟨j + 1, by omega, by go_num, HN2, trivial⟩
              case measure => simp [intOf]; omega
      · have hi : ¬ (j : Int) < (nm.size : Int) := by omega
        obtain rfl : j = nm.size := by omega
        have hiv := HIV.out
        rw [if_neg (by simp), if_neg (by rw [dee_none HN.out]; simp)] at hiv
        clear HN HIV
        go_wp2_with fail
        refine Calls.mono (unhide CS _) ?_
        rintro e w3 ⟨rfl, hb3⟩
        have HB3 := hide ((HB.out).trans (hb3.mono (HB.out).size))
        clear hb3 HB CS t0 t3 HT
        have hsc := HSC.out
        rcases eqk er 10 with ⟨g1, g1b⟩ | ⟨g1, g1b⟩
        · subst g1
          rw [if_pos (.inr rfl)] at hsc
          rw [hsc, if_neg (by simp)] at hiv
          have HV := hide hiv
          clear hiv hsc HSC g1b
          go_wp2_with fail
          go_ret3
          exact ⟨by rw [HV.out] <;> rfl, HB3.out⟩
        · rcases eqk er 0 with ⟨g2, g2b⟩ | ⟨g2, g2b⟩
          · subst g2
            rw [if_pos (.inl rfl)] at hsc
            rw [hsc, if_pos rfl] at hiv
            have HV := hide hiv
            clear hiv hsc HSC g2b
            go_wp2_with fail
            go_ret3
            exact ⟨by rw [HV.out] <;> rfl, HB3.out⟩
          · rw [if_neg (by omega)] at hsc
            rw [hsc, if_neg (by decide)] at hiv
            have HV := hide hiv
            have gn : (er != 0) = true := by rw [bne, g2b]; rfl
            clear hiv hsc HSC
            go_wp2_with fail
            go_ret3
            exact ⟨by rw [HV.out] <;> rfl, HB3.out⟩
  · have hv := HIV.out
    rw [if_pos h1] at hv
    have HV := hide hv
    have hn1 : (k != 3) = true := by rw [bne, h1b]; rfl
    clear hv HIV hin h1 h1b CS HSC
    go_enter Tryz.func12, Tryz.ntmps12
    go_wp2_with fail
    refine Calls.mono CW.out ?_
    rintro e w1 ⟨rfl, hb1⟩
    have hT := TkAt.new w1 k ax tx nm
    have t0 := hT.c0
    have HB1 := hide (hb1.alloc hb1.size (.cells #[.int .i64 k, .int .i64 ax, .string tx, .string nm] 25))
    clear hb1 CW hT
    go_wp2_with fail
    go_ret3
    exact ⟨by rw [HV.out] <;> rfl, HB1.out⟩

end Go.Proofs.YtcjmmblkcdpgoaaGreatDoor

/- ValueReads walked. -/
namespace Go.Proofs.YtcjmmblkcdpgoaaGreatDoor
open Go.RowKit

/-- What the walk over the words keeps. -/
structure ReadsSt (w wr : World) (v : Value) (l : List Tk) : Prop where
  tks : Tks wr v l
  v5 : V5 wr
  bel : Below w.heap.size w wr
theorem ReadsSt.next {w w1 w2 : World} {v : Value} {l : List Tk} (h : ReadsSt w w1 v l) (hb : Below w1.heap.size w1 w2) : ReadsSt w w2 v l := ⟨h.tks.below hb, h.v5.below hb, h.bel.trans (hb.mono h.bel.size)⟩
/-- The four keywords that are asked for. -/
def four (s : ByteArray) : List ByteArray := [⟨#[97]⟩, ⟨#[97, 117, 116, 111]⟩, s, ⟨#[115, 112, 97, 110]⟩]
theorem four_size {s : ByteArray} (h : s.size ≤ 140737488351232) : ∀ j, j < (four s).length → ((four s).getD j ByteArray.empty).size ≤ 140737488351232 := by
  intro j hj
  have hj4 : j < 4 := hj
  obtain rfl | rfl | rfl | rfl : j = 0 ∨ j = 1 ∨ j = 2 ∨ j = 3 := by omega
  · exact Nat.le_of_ble_eq_true rfl
  · exact Nat.le_of_ble_eq_true rfl
  · exact h
  · exact Nat.le_of_ble_eq_true rfl
theorem tk_num {l : List Tk} (h : ∀ i x, i < l.length → l[i]? = some x → x.2.1.size ≤ 1000 ∧ x.2.2.size ≤ 1000) (at_ : Int) : (tkV l at_).2.2.size ≤ 2000 := by
  unfold tkV
  split
  · exact Nat.le_of_ble_eq_true rfl
  · by_cases hi : at_.toNat < l.length
    · rw [List.getD, List.getElem?_eq_getElem hi]
      have := (h _ _ hi (List.getElem?_eq_getElem hi)).2
      simp only [Option.getD_some]
      omega
    · rw [List.getD, List.getElem?_eq_none (by omega)]
      exact Nat.le_of_ble_eq_true rfl

set_option maxRecDepth 100000 in
set_option maxHeartbeats 16000000 in
theorem valueReads_walk (v : Value) (l : List Tk) (at_ a : Int) (s : ByteArray) (w : World) (hx : Tks w v l) (hv : V5 w) (hs : s.size ≤ 140737488351232) :
    Calls Tryz.prog 3 #[v, .int .i64 at_, .int .i64 a, .string s] w fun e w' => e = .returned (.bool true) ∧ Below w.heap.size w w' := by
  have ST0 : Hid (ReadsSt w w v l) := hide ⟨hx, hv, Below.refl _ w⟩
  obtain ⟨ao, cap, rfl⟩ := hx.slice
  clear hx hv
  by_cases hl : 200 < l.length
  · have h1 : (200 : Int) < (l.length : Int) := by omega
    go_enter Tryz.func3, Tryz.ntmps3
    go_wp2_with fail
    refine Calls.mono (lives5_any _ (ST0.out).v5) ?_
    rintro e w1 ⟨rfl, hb⟩
    go_wp2_with fail
    go_ret
    exact ⟨rfl, hb⟩
  · have h1 : ¬ (200 : Int) < (l.length : Int) := by omega
    go_enter Tryz.func3, Tryz.ntmps3
    go_wp2_with fail
    go_loopw [34] (fun i wr => ∃ j : Nat, j ≤ l.length ∧ i = .int .i64 (j : Int) ∧ Hid (ReadsSt w wr (.slice ao l.length cap) l) ∧ Hid (∀ i x, i < j → l[i]? = some x → x.2.1.size ≤ 1000 ∧ x.2.2.size ≤ 1000)) (fun i _ => ((l.length : Int) - intOf i).toNat)
    case atStart => exact ⟨0, by omega, by go_num, ST0, hide (fun _ _ h => by omega)⟩
    case round =>
      clear ST0
      obtain ⟨j, hj, rfl, ST, HS⟩ := hrel
      by_cases hjl : j < l.length
      · obtain ⟨x, hxj⟩ : ∃ x, l[j]? = some x := ⟨_, List.getElem?_eq_getElem hjl⟩
        rcases (ST.out).tks.val with ⟨hnil, _⟩ | ⟨b, off, cap', hsl, hlt, hc⟩
        · rw [hnil] at hjl; simp at hjl
        · have hao : ao = some ⟨b, off, none⟩ := by simp at hsl; exact hsl.1
          have hji : (j : Int) < (l.length : Int) := by omega
          obtain ⟨c0, c1, c2, c3⟩ := hc j x hxj
          subst hao
          have ST2 := hide ((ST.out).next ((Below.refl _ wr).alloc (Nat.le_refl _) (.cells #[.int .i64 x.1.1, .int .i64 x.1.2, .string x.2.1, .string x.2.2] 25)))
          have Hxj := hide hxj
          clear hc hsl hxj
          have d2 : (wr.alloc (.cells #[.int .i64 x.1.1, .int .i64 x.1.2, .string x.2.1, .string x.2.2] 25)).cell? ⟨wr.heap.size, 2, none⟩ = some (.string x.2.1) := by rw [Lib.cell_of_heap (heap_alloc_new wr _)]; rfl
          have d3 : (wr.alloc (.cells #[.int .i64 x.1.1, .int .i64 x.1.2, .string x.2.1, .string x.2.2] 25)).cell? ⟨wr.heap.size, 3, none⟩ = some (.string x.2.2) := by rw [Lib.cell_of_heap (heap_alloc_new wr _)]; rfl
          by_cases hbig : 1000 < x.2.2.size ∨ 1000 < x.2.1.size
          · have hcase : ((1000 : Int) < (x.2.2.size : Int)) ∨ (¬ (1000 : Int) < (x.2.2.size : Int) ∧ (1000 : Int) < (x.2.1.size : Int)) := by omega
            clear HS ST hbig
            rcases hcase with g1 | ⟨g1, g2⟩ <;> (
              go_wp2_with fail
              refine Calls.mono (lives5_any _ (ST2.out).v5) ?_
              rintro e w1 ⟨rfl, hb⟩
              have hB := (ST2.out).bel.trans (hb.mono (ST2.out).bel.size)
              clear hb
              go_wp2_with fail
              go_ret
              exact ⟨rfl, hB⟩)
          · have g1 : ¬ (1000 : Int) < (x.2.2.size : Int) := by omega
            have g2 : ¬ (1000 : Int) < (x.2.1.size : Int) := by omega
            have HS2 : Hid (∀ i y, i < j + 1 → l[i]? = some y → y.2.1.size ≤ 1000 ∧ y.2.2.size ≤ 1000) := hide (fun i y hi hy => by
              by_cases e : i = j
              · subst e
                rw [Hxj.out] at hy
                obtain rfl := Option.some.inj hy
                omega
              · exact (HS.out) i y (by omega) hy)
            clear HS ST hbig
            go_wp2_with fail
            go_round
            case rel => exact ⟨j + 1, by omega, by go_num, ST2, HS2⟩
            case measure => simp [intOf]; omega
      · obtain rfl : j = l.length := by omega
        have hsh : Short l := ⟨by omega, fun x hx => by
          obtain ⟨i, hi⟩ := List.getElem?_of_mem hx
          have := (HS.out) i x (List.getElem?_eq_some_iff.1 hi).1 hi
          omega⟩
        have hnm := tk_num (HS.out) at_
        have hjl2 : ¬ (l.length : Int) < (l.length : Int) := by omega
        have c1 := fun w' (h : ReadsSt w w' (.slice ao l.length cap) l) => vread_any l at_ a _ w' h.tks hsh h.v5.kw
        have c2 := fun w' (h : ReadsSt w w' (.slice ao l.length cap) l) => rread5_any l at_ a _ w' h.tks hsh hnm
        have c3 := fun w' (h : ReadsSt w w' (.slice ao l.length cap) l) => integer_any l at_ _ w' h.tks hsh
        have c4 := fun w' (h : ReadsSt w w' (.slice ao l.length cap) l) => rinteger_any l at_ _ w' h.tks hsh hnm
        have c5 := fun b w' (h : ReadsSt w w' (.slice ao l.length cap) l) ht hb => keyword_any l at_ (four s) b 4 _ w' h.tks hsh ht hb rfl (Nat.le_of_ble_eq_true rfl) (four_size hs)
        have c6 := fun b w' (h : ReadsSt w w' (.slice ao l.length cap) l) ht hb => rkeyword_any l at_ (four s) b 4 _ w' h.tks hsh ht hb rfl (Nat.le_of_ble_eq_true rfl) (four_size hs)
        have c7 := fun z w' (h : ReadsSt w w' (.slice ao l.length cap) l) => sign_any l at_ z _ w' h.tks hsh
        have c8 := fun z w' (h : ReadsSt w w' (.slice ao l.length cap) l) => rsign5_any l at_ z _ w' h.tks hsh
        generalize readL l at_ a = R at *
        generalize intV l at_ = I at *
        generalize keywV l at_ (four s) = K at *
        generalize signV l at_ = G at *
        obtain ⟨⟨rk, rn⟩, ra, re⟩ := R
        obtain ⟨i1, i2, i3⟩ := I
        obtain ⟨k1, k2⟩ := K
        unfold readE lenA at c1 c2
        have C1 := hide c1
        have C2 := hide c2
        have C3 := hide c3
        have C4 := hide c4
        have C5 := hide c5
        have C6 := hide c6
        have C7 := hide c7
        have C8 := hide c8
        clear c1 c2 c3 c4 c5 c6 c7 c8 HS hsh hnm
        go_wp2_with fail
        refine Calls.mono (unhide C1 _ ST.out) ?_
        rintro e0 w1 ⟨rfl, hb⟩
        go_upto_region 10 with fail
        have ST1 := hide ((ST.out).next (hb.alloc hb.size (.cells #[.int .i64 rk, .int .i64 rn] 27)))
        have HA := hide (LenAt.new w1 rk rn)
        clear C1 hb ST
        generalize w1.alloc (.cells #[.int .i64 rk, .int .i64 rn] 27) = w2 at *
        generalize w1.heap.size = b1 at *
        go_wp2_with fail
        refine Calls.mono (unhide C2 _ ST1.out) ?_
        rintro e0 w3 ⟨rfl, hb⟩
        go_upto_region 11 with fail
        have hq := hb.alloc hb.size (.cells #[.int .i64 rk, .int .i64 rn] 27)
        have ST3 := hide ((ST1.out).next hq)
        have HA3 := hide ((HA.out).below hq (HA.out).lt)
        have HB3 := hide (LenAt.new w3 rk rn)
        clear C2 hb hq ST1 HA
        generalize w3.alloc (.cells #[.int .i64 rk, .int .i64 rn] 27) = w4 at *
        generalize w3.heap.size = b2 at *
        have x0 := (HA3.out).c0
        have x1 := (HA3.out).c1
        have y0 := (HB3.out).c0
        have y1 := (HB3.out).c1
        go_wp2_with fail
        refine Calls.mono (unhide C3 _ ST3.out) ?_
        rintro e0 w5 ⟨rfl, hb⟩
        have ST5 := hide ((ST3.out).next hb)
        clear hb ST3 C3 HA3 HB3 x0 x1 y0 y1
        go_wp2_with fail
        refine Calls.mono (unhide C4 _ ST5.out) ?_
        rintro e0 w6 ⟨rfl, hb⟩
        have ST6 := hide ((ST5.out).next hb)
        clear hb ST5 C4
        go_upto_region 15 with fail
        have ST7 := hide ((ST6.out).next ((Below.refl _ w6).alloc (Nat.le_refl _) (.cells ((four s).map Value.string).toArray 9)))
        have TX7 := hide (txAt_new w6 9 (four s))
        have LT7 : w6.heap.size < (w6.alloc (.cells ((four s).map Value.string).toArray 9)).heap.size := by simp
        clear ST6
        go_upto_region 16 with fail
        change Hid (ReadsSt w (w6.alloc (.cells #[.string ⟨#[97]⟩, .string ⟨#[97, 117, 116, 111]⟩, .string s, .string ⟨#[115, 112, 97, 110]⟩] 9)) _ _) at ST7
        change Hid (TxAt (w6.alloc (.cells #[.string ⟨#[97]⟩, .string ⟨#[97, 117, 116, 111]⟩, .string s, .string ⟨#[115, 112, 97, 110]⟩] 9)) _ _) at TX7
        change w6.heap.size < (w6.alloc (.cells #[.string ⟨#[97]⟩, .string ⟨#[97, 117, 116, 111]⟩, .string s, .string ⟨#[115, 112, 97, 110]⟩] 9)).heap.size at LT7
        generalize w6.alloc (.cells #[.string ⟨#[97]⟩, .string ⟨#[97, 117, 116, 111]⟩, .string s, .string ⟨#[115, 112, 97, 110]⟩] 9) = w7 at *
        generalize w6.heap.size = b3 at *
        go_wp2_with fail
        refine Calls.mono (unhide C5 b3 _ ST7.out TX7.out LT7) ?_
        rintro e0 w8 ⟨rfl, hb⟩
        have ST8 := hide ((ST7.out).next hb)
        have TX8 := hide ((TX7.out).below hb LT7)
        have LT8 := Nat.lt_of_lt_of_le LT7 hb.size
        clear hb ST7 TX7 LT7 C5
        go_wp2_with fail
        refine Calls.mono (unhide C6 b3 _ ST8.out TX8.out LT8) ?_
        rintro e0 w9 ⟨rfl, hb⟩
        have ST9 := hide ((ST8.out).next hb)
        clear hb ST8 TX8 LT8 C6
        go_wp2_with fail
        refine Calls.mono (unhide C7 s _ ST9.out) ?_
        rintro e0 w10 ⟨rfl, hb⟩
        have ST10 := hide ((ST9.out).next hb)
        clear hb ST9
        go_wp2_with fail
        refine Calls.mono (unhide C8 s _ ST10.out) ?_
        rintro e0 w11 ⟨rfl, hb⟩
        have ST11 := hide ((ST10.out).next hb)
        clear hb ST10
        generalize G s = gs at *
        cases gs <;> (
          go_wp2_with fail
          refine Calls.mono (unhide C7 ⟨#[91]⟩ _ ST11.out) ?_
          rintro e0 w12 ⟨rfl, hb⟩
          have ST12 := hide ((ST11.out).next hb)
          clear hb
          go_wp2_with fail
          refine Calls.mono (unhide C8 ⟨#[91]⟩ _ ST12.out) ?_
          rintro e0 w13 ⟨rfl, hb⟩
          have ST13 := hide ((ST12.out).next hb)
          clear hb
          generalize G ⟨#[91]⟩ = gt at *
          cases gt <;> (
            go_wp2_with fail
            refine Calls.mono (lives5_any _ (ST13.out).v5) ?_
            rintro e0 w14 ⟨rfl, hb⟩
            have hB := (ST13.out).bel.trans (hb.mono (ST13.out).bel.size)
            clear hb
            go_wp2_with fail
            go_ret
            exact ⟨rfl, hB⟩))

end Go.Proofs.YtcjmmblkcdpgoaaGreatDoor

/- A row with laid tables whose walk wants the world's shape besides. -/
namespace Go.Proofs.YtcjmmblkcdpgoaaGreatDoor
open Go.RowKit

theorem handed_both {H : Type} {enc : TypeId × Value → H} {a : Assume} {C : Checked} {os : Os} {f : FuncId} {fn : Func} {s : ChangeSpec} {conds : List PathCond} {apart fresh handsOn again : Bool} {X : World → Array Value → Prop}
    (hX : ∀ (w w' : World) (args : Array Value), w.heap = w'.heap → X w args → X w' args)
    (own : ownKnob C.prog.godebug = none) (started : os.Started) (noInit : C.prog.inits.idxOf? f = none) (hfn : C.prog.funcs[f]? = some fn)
    (witness : ∃ (w : World) (tape : Tape) (i : Input), w.os = os ∧ (w.forCall tape i).Shaped C.prog ∧ i.vars = [] ∧ Input.okWide C.prog (w.forCall tape i) .any w.heap.size f i ∧
      ((s.pre enc C.prog fn conds apart (w.forCall tape i).memory i.args ∧ X (w.forCall tape i).memory i.args) ∧ sizedMet enc C.prog fn (OpenSpec.ofChange s) apart (w.forCall tape i).memory i.args) ∧ a.holds C.prog (lone (Frame.enter C.prog f i.args .normal) [] (w.forCall tape i)))
    (walk : ∀ (W : World) (base : Nat) (args : Array Value) (ds gs : List (DataW H)) (before : List MemPlace),
      (∀ (j : Nat) t v, fn.params[j]? = some t → args[j]? = some v → Value.okWide C.prog W .any base t v) →
      DataW.Whole enc C.prog fn.params.toList s.vars apart W args.toList ds gs before → X W args → W.ShapedOpen C.prog →
      Calls C.prog f args W fun e W' => ∃ v, e = .returned v ∧ s.post enc C.prog fn apart fresh handsOn again W args v W') :
    ReturnsInHanded a C os f .any (fun w args => (s.pre enc C.prog fn conds apart w args ∧ X w args) ∧ sizedMet enc C.prog fn (OpenSpec.ofChange s) apart w args) (s.post enc C.prog fn apart fresh handsOn again) := by
  refine returnsInHanded_of_calls own started noInit witness ?_
  intro w tape i _ hsh _ hok hpre _
  obtain ⟨_, _, _, g, hg, _, _, _, _, hval⟩ := hok
  obtain rfl : g = fn := Option.some.inj (hg.symm.trans hfn)
  obtain ⟨⟨⟨ds, gs, before, hw, _⟩, hx⟩, _⟩ := hpre
  have hw' := DataW.Whole.of_heap (w' := w.forCall tape i) (by rfl) hw
  refine (walk (w.forCall tape i) w.heap.size i.args ds gs before hval hw' (hX _ _ _ (by rfl) hx) hsh).mono fun e W' ⟨v, he, hp⟩ => ?_
  subst he
  exact ChangeSpec.post_blind hp
theorem max_of {w : World} (h : w.ShapedOpen Tryz.prog) : MaxAt w := Tryz.laysM143.s1_3 w h

end Go.Proofs.YtcjmmblkcdpgoaaGreatDoor

/- A row with laid tables whose walk wants the world's shape and how great its arguments may be. -/
namespace Go.Proofs.YtcjmmblkcdpgoaaGreatDoor
open Go.RowKit

theorem handed_sized {H : Type} {enc : TypeId × Value → H} {a : Assume} {C : Checked} {os : Os} {f : FuncId} {fn : Func} {s : ChangeSpec} {conds : List PathCond} {apart fresh handsOn again : Bool} {X : World → Array Value → Prop}
    (hX : ∀ (w w' : World) (args : Array Value), w.heap = w'.heap → X w args → X w' args)
    (own : ownKnob C.prog.godebug = none) (started : os.Started) (noInit : C.prog.inits.idxOf? f = none) (hfn : C.prog.funcs[f]? = some fn)
    (witness : ∃ (w : World) (tape : Tape) (i : Input), w.os = os ∧ (w.forCall tape i).Shaped C.prog ∧ i.vars = [] ∧ Input.okWide C.prog (w.forCall tape i) .any w.heap.size f i ∧
      ((s.pre enc C.prog fn conds apart (w.forCall tape i).memory i.args ∧ X (w.forCall tape i).memory i.args) ∧ sizedMet enc C.prog fn (OpenSpec.ofChange s) apart (w.forCall tape i).memory i.args) ∧ a.holds C.prog (lone (Frame.enter C.prog f i.args .normal) [] (w.forCall tape i)))
    (walk : ∀ (W : World) (base : Nat) (args : Array Value) (ds gs : List (DataW H)) (before : List MemPlace),
      (∀ (j : Nat) t v, fn.params[j]? = some t → args[j]? = some v → Value.okWide C.prog W .any base t v) →
      DataW.Whole enc C.prog fn.params.toList s.vars apart W args.toList ds gs before → X W args → W.ShapedOpen C.prog →
      (∃ ds2 gs2 before2, DataW.Whole enc C.prog fn.params.toList s.vars apart W args.toList ds2 gs2 before2 ∧ (DataW.weightsEach C.prog (fn.params.toList ++ (OpenSpec.ofChange s).bare.plain.varTypes C.prog) (ds2 ++ gs2)).all (· ≤ reachBytes) = true) →
      Calls C.prog f args W fun e W' => ∃ v, e = .returned v ∧ s.post enc C.prog fn apart fresh handsOn again W args v W') :
    ReturnsInHanded a C os f .any (fun w args => (s.pre enc C.prog fn conds apart w args ∧ X w args) ∧ sizedMet enc C.prog fn (OpenSpec.ofChange s) apart w args) (s.post enc C.prog fn apart fresh handsOn again) := by
  refine returnsInHanded_of_calls own started noInit witness ?_
  intro w tape i _ hsh _ hok hpre _
  obtain ⟨_, _, _, g, hg, _, _, _, _, hval⟩ := hok
  obtain rfl : g = fn := Option.some.inj (hg.symm.trans hfn)
  obtain ⟨⟨⟨ds, gs, before, hw, _⟩, hx⟩, _, ds2, gs2, before2, hw2, hall⟩ := hpre
  have hw' := DataW.Whole.of_heap (w' := w.forCall tape i) (by rfl) hw
  have hw2' := DataW.Whole.of_heap (w' := w.forCall tape i) (by rfl) hw2
  refine (walk (w.forCall tape i) w.heap.size i.args ds gs before hval hw' (hX _ _ _ (by rfl) hx) hsh ⟨ds2, gs2, before2, hw2', hall⟩).mono fun e W' ⟨v, he, hp⟩ => ?_
  subst he
  exact ChangeSpec.post_blind hp
theorem weights_last4 {H : Type} {P : Program} {t0 t1 t2 t3 : TypeId} {ts : List TypeId} {d0 d1 d2 : DataW H} {l : List UInt8} {r : List (DataW H)} (h : (DataW.weightsEach P ([t0, t1, t2, t3] ++ ts) ([d0, d1, d2, .lit (.string l)] ++ r)).all (· ≤ reachBytes) = true) : l.length ≤ 140737488351232 := by
  simp only [List.cons_append, DataW.weightsEach, List.all_append, Bool.and_eq_true] at h
  have := h.2.2.2.1
  simp only [DataW.weights, List.all_cons, Bool.and_eq_true, decide_eq_true_iff] at this
  exact this.1

end Go.Proofs.YtcjmmblkcdpgoaaGreatDoor

/- A size that comes in, and the table of keywords as the row lists it. -/
namespace Go.Proofs.YtcjmmblkcdpgoaaGreatDoor
open Go Go.ChangeShapes Go.WideShapes Go.RowKit

theorem cl_len : Tryz.prog.cellsOf 27 = 2 := by kernel_rfl
theorem cl_int : Tryz.prog.cellsOf 3 = 1 := by kernel_rfl
theorem cl_str : Tryz.prog.cellsOf 9 = 1 := by kernel_rfl
theorem cl_kw : Tryz.prog.cellsOf 90 = 4 := by kernel_rfl
theorem cl_kws : Tryz.prog.cellsOf 91 = 16 := by kernel_rfl

section
variable {H : Type} {enc : TypeId × Value → H} {w : World} {base : Nat} {spare : Nat → Bool} {held : Bool}

set_option maxRecDepth 100000 in
/-- The two numbers of a size. -/
theorem trod_len {fuel : Nat} {cs : List Value} {x : DataW H × List MemPlace} (h : DataW.trod enc Tryz.prog w base spare held fuel 27 cs = some x) :
    ∃ k n, cs = [.int .i64 k, .int .i64 n] ∧ x = (.agg [.lit (.int .i64 k), .lit (.int .i64 n)], []) ∧ (Lit.int .i64 k).wf = true ∧ (Lit.int .i64 n).wf = true := by
  obtain ⟨xs, m, rfl, rfl, hl, hx, hf⟩ := DataW.trod_struct Tryz.underlying27 h
  rw [cl_len] at hl
  have h0 : DataW.trod enc Tryz.prog w base spare held m 3 ((cs.drop 0).take (Tryz.prog.cellsOf 3)) = xs[0]? := hf 0 _ rfl
  have h1 : DataW.trod enc Tryz.prog w base spare held m 3 ((cs.drop 1).take (Tryz.prog.cellsOf 3)) = xs[1]? := hf 1 _ rfl
  rw [cl_int] at h0 h1
  match cs, hl with
  | [c0, c1], _ =>
    match xs, hx with
    | [x0, x1], _ =>
      obtain ⟨k, e0, f0, g0⟩ := DataW.trod_int Tryz.underlying3 h0
      obtain ⟨n, e1, f1, g1⟩ := DataW.trod_int Tryz.underlying3 h1
      simp at e0 e1
      subst e0 e1 f0 f1
      exact ⟨k, n, rfl, rfl, g0, g1⟩
set_option maxRecDepth 100000 in
theorem trod_len_mk {k n : Int} (hk : (Lit.int .i64 k).wf = true) (hn : (Lit.int .i64 n).wf = true) : DataW.trod enc Tryz.prog w base spare held 2 27 [.int .i64 k, .int .i64 n] = some (.agg [.lit (.int .i64 k), .lit (.int .i64 n)], []) := by
  have h3 : ∀ j : Int, (Lit.int .i64 j).wf = true → DataW.trod enc Tryz.prog w base spare held 1 3 [.int .i64 j] = some (.lit (.int .i64 j), []) := fun j hj => by simp [DataW.trod, Tryz.underlying3, hj]
  unfold DataW.trod
  rw [Tryz.underlying27 ]
  simp [cl_len, cl_int, h3 k hk, h3 n hn]

set_option maxRecDepth 100000 in
theorem open_len {r : Reach} {b0 : Nat} {v : Value} {d : DataW H} {ps : List MemPlace} (hval : Value.okWide Tryz.prog w r b0 27 v) (hd : DataW.Trod enc Tryz.prog w base spare held 27 v d ps) :
    ∃ k n, v = lenA k n ∧ d = .agg [.lit (.int .i64 k), .lit (.int .i64 n)] ∧ ps = [] ∧ (Lit.int .i64 k).wf = true ∧ (Lit.int .i64 n).wf = true := by
  obtain ⟨fuel, hf⟩ := hd
  obtain ⟨k, n, hc, hx, g0, g1⟩ := trod_len hf
  unfold Value.okWide at hval
  rw [Tryz.underlying27 ] at hval
  obtain ⟨cs, rfl, _⟩ := hval
  simp only [Prod.mk.injEq] at hx
  refine ⟨k, n, ?_, hx.1, hx.2, g0, g1⟩
  unfold lenA
  congr 1
  have : cs.toList = [.int .i64 k, .int .i64 n] := hc
  rw [← Array.toArray_toList (xs := cs), this]
theorem shut_len {k n : Int} (hk : (Lit.int .i64 k).wf = true) (hn : (Lit.int .i64 n).wf = true) : DataW.Trod enc Tryz.prog w base spare held 27 (lenA k n) (.agg [.lit (.int .i64 k), .lit (.int .i64 n)]) [] :=
  ⟨2, trod_len_mk hk hn⟩

set_option maxRecDepth 100000 in
/-- One row of the table. -/
theorem trod_kw {fuel : Nat} {cs : List Value} {p : List MemPlace} {k n u : Int} {t : List UInt8} (h : DataW.trod enc Tryz.prog w base spare held fuel 90 cs = some (.agg [.agg [.lit (.int .i64 k), .lit (.int .i64 n)], .lit (.int .i64 u), .lit (.string t)], p)) :
    cs = [.int .i64 k, .int .i64 n, .int .i64 u, .string ⟨t.toArray⟩] := by
  obtain ⟨xs, m, rfl, hxx, hl, hx, hf⟩ := DataW.trod_struct Tryz.underlying90 h
  rw [cl_kw] at hl
  have h0 : DataW.trod enc Tryz.prog w base spare held m 27 ((cs.drop 0).take (Tryz.prog.cellsOf 27)) = xs[0]? := hf 0 _ rfl
  have h1 : DataW.trod enc Tryz.prog w base spare held m 3 ((cs.drop 2).take (Tryz.prog.cellsOf 3)) = xs[1]? := hf 1 _ rfl
  have h2 : DataW.trod enc Tryz.prog w base spare held m 9 ((cs.drop 3).take (Tryz.prog.cellsOf 9)) = xs[2]? := hf 2 _ rfl
  rw [cl_len] at h0
  rw [cl_int] at h1
  rw [cl_str] at h2
  match cs, hl with
  | [c0, c1, c2, c3], _ =>
    match xs, hx with
    | [x0, x1, x2], _ =>
      obtain ⟨k', n', e0, f0, _⟩ := trod_len h0
      obtain ⟨u', e1, f1, _⟩ := DataW.trod_int Tryz.underlying3 h1
      obtain ⟨s, e2, f2, _⟩ := DataW.trod_string Tryz.underlying9 h2
      simp at e0 e1 e2
      obtain ⟨rfl, rfl⟩ := e0
      subst e1 e2 f0 f1 f2
      simp at hxx
      obtain ⟨⟨⟨rfl, rfl⟩, rfl, rfl⟩, _⟩ := hxx
      rfl
end

theorem split16 {α : Type} (L : List α) (h : L.length = 16) : L = L.take 4 ++ ((L.drop (1 * 4)).take 4 ++ ((L.drop (2 * 4)).take 4 ++ (L.drop (3 * 4)).take 4)) := by
  have e3 : (L.drop 12).take 4 = L.drop 12 := List.take_of_length_le (by simp; omega)
  have e2 : (L.drop 8).take 4 ++ L.drop 12 = L.drop 8 := by rw [show L.drop 12 = (L.drop 8).drop 4 by rw [List.drop_drop]]; exact List.take_append_drop 4 _
  have e1 : (L.drop 4).take 4 ++ L.drop 8 = L.drop 4 := by rw [show L.drop 8 = (L.drop 4).drop 4 by rw [List.drop_drop]]; exact List.take_append_drop 4 _
  show L = L.take 4 ++ ((L.drop 4).take 4 ++ ((L.drop 8).take 4 ++ (L.drop 12).take 4))
  rw [e3, e2, e1, List.take_append_drop]

set_option maxRecDepth 100000 in
/-- From what the row lists to the table. -/
theorem kw_of_head {W : World} {rest : List (String × DataW Unit)} (h : laidMet Tryz.prog (("parterre/value.keywords", Rows.laid_parterre_value_keywords) :: rest) W) : KW W := by
  obtain ⟨ps, ⟨g', t', cs, fuel, p, q, hg', ht', hvar, hd, _, _⟩, _⟩ := h
  obtain rfl := Option.some.inj (kw_named.symm.trans hg')
  have hty : (Tryz.prog.globals[ 0 ]?).map (·.type) = some 91 := by kernel_rfl
  obtain rfl := Option.some.inj (hty.symm.trans ht')
  unfold KW
  rw [hvar]
  obtain ⟨xs, m, rfl, hxx, hl, hx, hf⟩ := DataW.trod_array Tryz.underlying91 hd
  rw [cl_kws] at hl
  have h0 := hf 0 (by decide)
  have h1 := hf 1 (by decide)
  have h2 := hf 2 (by decide)
  have h3 := hf 3 (by decide)
  rw [cl_kw] at h0 h1 h2 h3
  match xs, hx with
  | [x0, x1, x2, x3], _ =>
    simp [Rows.laid_parterre_value_keywords] at hxx
    obtain ⟨d0, p0⟩ := x0
    obtain ⟨d1, p1⟩ := x1
    obtain ⟨d2, p2⟩ := x2
    obtain ⟨d3, p3⟩ := x3
    obtain ⟨⟨rfl, rfl, rfl, rfl⟩, _⟩ := hxx
    have g0 := trod_kw h0
    have g1 := trod_kw h1
    have g2 := trod_kw h2
    have g3 := trod_kw h3
    have e := split16 cs.toList hl
    rw [show cs.toList.take 4 = (cs.toList.drop (0 * 4)).take 4 from rfl, g0, g1, g2, g3] at e
    rw [← Array.toArray_toList (xs := cs), e]
    rfl

end Go.Proofs.YtcjmmblkcdpgoaaGreatDoor

/- Words that come in. -/
namespace Go.Proofs.YtcjmmblkcdpgoaaGreatDoor
open Go Go.ChangeShapes Go.WideShapes Go.RowKit

theorem cl_tk : Tryz.prog.cellsOf 25 = 4 := by kernel_rfl
theorem cl_int6 : Tryz.prog.cellsOf 3 = 1 := by kernel_rfl
theorem cl_str6 : Tryz.prog.cellsOf 9 = 1 := by kernel_rfl

section
variable {H : Type} {enc : TypeId × Value → H} {w : World} {base : Nat} {spare : Nat → Bool} {held : Bool}

/-- A word as data. -/
def tkD (x : Tk) : DataW H := .agg [.lit (.int .i64 x.1.1), .lit (.int .i64 x.1.2), .lit (.string x.2.1.data.toList), .lit (.string x.2.2.data.toList)]
set_option maxRecDepth 100000 in
/-- The parts of a word. -/
theorem trod_tk {fuel : Nat} {cs : List Value} {y : DataW H × List MemPlace} (h : DataW.trod enc Tryz.prog w base spare held fuel 25 cs = some y) :
    ∃ x : Tk, cs = [.int .i64 x.1.1, .int .i64 x.1.2, .string x.2.1, .string x.2.2] ∧ y = (tkD x, []) ∧ (Lit.int .i64 x.1.1).wf = true ∧ (Lit.int .i64 x.1.2).wf = true ∧ x.2.1.size ≤ maxLen ∧ x.2.2.size ≤ maxLen := by
  obtain ⟨xs, m, rfl, rfl, hl, hx, hf⟩ := DataW.trod_struct Tryz.underlying25 h
  rw [cl_tk] at hl
  have h0 : DataW.trod enc Tryz.prog w base spare held m 3 ((cs.drop 0).take (Tryz.prog.cellsOf 3)) = xs[0]? := hf 0 _ rfl
  have h1 : DataW.trod enc Tryz.prog w base spare held m 3 ((cs.drop 1).take (Tryz.prog.cellsOf 3)) = xs[1]? := hf 1 _ rfl
  have h2 : DataW.trod enc Tryz.prog w base spare held m 9 ((cs.drop 2).take (Tryz.prog.cellsOf 9)) = xs[2]? := hf 2 _ rfl
  have h3 : DataW.trod enc Tryz.prog w base spare held m 9 ((cs.drop 3).take (Tryz.prog.cellsOf 9)) = xs[3]? := hf 3 _ rfl
  rw [cl_int6] at h0 h1
  rw [cl_str6] at h2 h3
  match cs, hl with
  | [c0, c1, c2, c3], _ =>
    match xs, hx with
    | [x0, x1, x2, x3], _ =>
      obtain ⟨k, e0, f0, g0⟩ := DataW.trod_int Tryz.underlying3 h0
      obtain ⟨n, e1, f1, g1⟩ := DataW.trod_int Tryz.underlying3 h1
      obtain ⟨s, e2, f2, g2⟩ := DataW.trod_string Tryz.underlying9 h2
      obtain ⟨t, e3, f3, g3⟩ := DataW.trod_string Tryz.underlying9 h3
      simp at e0 e1 e2 e3
      subst e0 e1 e2 e3 f0 f1 f2 f3
      exact ⟨((k, n), s, t), rfl, rfl, g0, g1, g2, g3⟩
set_option maxRecDepth 100000 in
/-- A word's reading asks nothing of memory. -/
theorem trod_tk_any {w' : World} {n : Nat} {cs : List Value} {y : DataW H × List MemPlace} (h : DataW.trod enc Tryz.prog w base spare held n 25 cs = some y) : DataW.trod enc Tryz.prog w' base spare held n 25 cs = some y := by
  obtain ⟨x, rfl, rfl, g0, g1, g2, g3⟩ := trod_tk h
  obtain ⟨xs, m, rfl, _, _, hx, hf⟩ := DataW.trod_struct Tryz.underlying25 h
  have h0 : DataW.trod enc Tryz.prog w base spare held m 3 [.int .i64 x.1.1] = xs[0]? := hf 0 _ rfl
  match m, h0 with
  | 0, h0 =>
    match xs, hx with
    | [_, _, _, _], _ => simp [DataW.trod] at h0
  | m + 1, _ =>
    have i1 : ∀ j : Int, (Lit.int .i64 j).wf = true → DataW.trod enc Tryz.prog w' base spare held (m + 1) 3 [.int .i64 j] = some (.lit (.int .i64 j), []) := fun j hj => by simp [DataW.trod, Tryz.underlying3, hj]
    have i2 : ∀ s : ByteArray, s.size ≤ maxLen → DataW.trod enc Tryz.prog w' base spare held (m + 1) 9 [.string s] = some (.lit (.string s.data.toList), []) := fun s hs => by simp [DataW.trod, Tryz.underlying9, hs]
    unfold DataW.trod
    rw [Tryz.underlying25 ]
    simp [cl_tk, cl_int6, cl_str6, i1 _ g0, i1 _ g1, i2 _ g2, i2 _ g3, tkD]

theorem mapM_mono {α β : Type} {f g : α → Option β} : ∀ {l : List α} {r : List β}, (∀ x ∈ l, ∀ y, f x = some y → g x = some y) → l.mapM f = some r → l.mapM g = some r
  | [], r, _, h => by simpa using h
  | x :: l, r, hm, h => by
    simp only [List.mapM_cons, Option.bind_eq_bind, Option.bind_eq_some_iff, Option.pure_def, Option.some.injEq] at h ⊢
    obtain ⟨y, hy, r', hr', rfl⟩ := h
    exact ⟨y, hm x (by simp) y hy, r', mapM_mono (fun z hz => hm z (by simp [hz])) hr', rfl⟩
theorem cells_mono {w' : World} {a : Addr} {n : Nat} {cs : List Value} (hb : RowKit.Below w.heap.size w w') (hn : 0 < n) (h : w.cells? base a n = some cs) : w'.cells? base a n = some cs := by
  have hlt := World.cells?_block h hn
  unfold World.cells? at h ⊢
  split at h
  · rw [if_pos ‹_›]
    exact mapM_mono (fun i _ y hy => by rw [hb.cell (p := a.add i) (by unfold Addr.add; split <;> exact hlt)]; exact hy) h
  · cases h
set_option maxRecDepth 100000 in
theorem trod_tks_below {w' : World} {fuel : Nat} {cs : List Value} {x : DataW H × List MemPlace} (hb : RowKit.Below w.heap.size w w') (h : DataW.trod enc Tryz.prog w base spare held fuel 22 cs = some x) : DataW.trod enc Tryz.prog w' base spare held fuel 22 cs = some x := by
  rcases DataW.trod_slice Tryz.underlying22 h with ⟨rfl, rfl⟩ | ⟨a, len, cap, elems, rest, n, rfl, rfl, rfl, _⟩
  · cases fuel with
    | zero => simp [DataW.trod] at h
    | succ n => simp [DataW.trod, Tryz.underlying22 ]
  · have el : ∀ i y, (w.cells? base (a.add (i * Tryz.prog.cellsOf 25)) (Tryz.prog.cellsOf 25)).bind (DataW.trod enc Tryz.prog w base spare held n 25) = some y →
        (w'.cells? base (a.add (i * Tryz.prog.cellsOf 25)) (Tryz.prog.cellsOf 25)).bind (DataW.trod enc Tryz.prog w' base spare held n 25) = some y := by
      intro i y hy
      rw [Option.bind_eq_some_iff] at hy ⊢
      obtain ⟨cs, h1, h2⟩ := hy
      exact ⟨cs, cells_mono hb (by rw [cl_tk]; decide) h1, trod_tk_any h2⟩
    unfold DataW.trod at h ⊢
    rw [Tryz.underlying22 ] at h ⊢
    simp only at h ⊢
    split at h
    · rename_i hg
      rw [if_pos hg]
      simp only [Option.bind_eq_some_iff, Option.map_eq_some_iff] at h ⊢
      obtain ⟨es, he, rs, hr, hd⟩ := h
      refine ⟨es, mapM_mono (fun i _ y hy => el i y hy) he, rs, ?_, hd⟩
      split at hr
      · rename_i hs
        rw [if_pos hs]
        exact mapM_mono (fun j _ y hy => el _ y hy) hr
      · rename_i hs
        rw [if_neg hs]
        exact hr
    · cases h

set_option maxRecDepth 100000 in
theorem okw_slice {r : Reach} {b0 : Nat} {v : Value} (hval : Value.okWide Tryz.prog w r b0 22 v) : v.cells.toList = [v] := by
  unfold Value.okWide at hval
  rw [Tryz.underlying22 ] at hval
  cases v <;> simp_all [Cell.okWide, Cell.ok, Value.cells]
set_option maxRecDepth 100000 in
/-- Words that come in, and that they read behind the call as they did. -/
theorem open_tks {r : Reach} {b0 : Nat} {v : Value} {d : DataW H} {ps : List MemPlace} (hval : Value.okWide Tryz.prog w r b0 22 v) (hd : DataW.Trod enc Tryz.prog w base spare held 22 v d ps) :
    ∃ l : List Tk, Tks w v l ∧ l.length ≤ maxLen ∧ (∀ x ∈ l, x.2.1.size ≤ maxLen ∧ x.2.2.size ≤ maxLen) ∧ ∀ w', RowKit.Below w.heap.size w w' → DataW.Trod enc Tryz.prog w' base spare held 22 v d ps := by
  obtain ⟨fuel, hf⟩ := hd
  have hk : ∀ w', RowKit.Below w.heap.size w w' → DataW.Trod enc Tryz.prog w' base spare held 22 v d ps := fun w' hb => ⟨fuel, trod_tks_below hb hf⟩
  rw [okw_slice hval] at hf
  rcases DataW.trod_slice Tryz.underlying22 hf with ⟨hv, _⟩ | ⟨a, len, cap, elems, rest, n, _, hv, _, _, hlc, hm, hlen, hel, _, _⟩
  · simp at hv
    exact ⟨[], ⟨.inl ⟨rfl, _, _, hv⟩⟩, by simp, by simp, hk⟩
  · simp at hv
    have each : ∀ i, i < len → ∃ x : Tk, w.cells? base (a.add (i * 4)) 4 = some [.int .i64 x.1.1, .int .i64 x.1.2, .string x.2.1, .string x.2.2] ∧ x.2.1.size ≤ maxLen ∧ x.2.2.size ≤ maxLen := by
      intro i hi
      have h1 := hel i hi
      rw [List.getElem?_eq_getElem (by omega), Option.bind_eq_some_iff, cl_tk] at h1
      obtain ⟨cs, h2, h3⟩ := h1
      obtain ⟨x, rfl, _, _, _, g2, g3⟩ := trod_tk h3
      exact ⟨x, h2, g2, g3⟩
    let f : Nat → Tk := fun i => if h : i < len then (each i h).choose else ((0, 0), ⟨#[]⟩, ⟨#[]⟩)
    have hf2 : ∀ i, i < len → w.cells? base (a.add (i * 4)) 4 = some [.int .i64 (f i).1.1, .int .i64 (f i).1.2, .string (f i).2.1, .string (f i).2.2] ∧ (f i).2.1.size ≤ maxLen ∧ (f i).2.2.size ≤ maxLen := by
      intro i hi
      have := (each i hi).choose_spec
      simpa [f, hi] using this
    refine ⟨(List.range len).map f, ⟨?_⟩, by simp; omega, ?_, hk⟩
    · by_cases h0 : len = 0
      · subst h0
        exact .inl ⟨rfl, _, _, hv⟩
      · obtain ⟨b, off, spot⟩ := a
        have hc0 := (World.cells?_some (hf2 0 (by omega)).1).2.2 0 (by decide)
        have hspot : spot = none := by
          have : w.cell? (⟨b, off, spot⟩ : Addr) = some (.int .i64 (f 0).1.1) := by simpa [Addr.add] using hc0
          exact World.cell?_spot this
        subst hspot
        have hlt : b < w.heap.size := World.cells?_block (a := (⟨b, off, none⟩ : Addr)) (n := 4) (by simpa [Addr.add] using (hf2 0 (by omega)).1) (by decide)
        refine .inr ⟨b, off, cap, by simpa using hv, hlt, fun i x hx => ?_⟩
        have hi : i < len := by have := (List.getElem?_eq_some_iff.1 hx).1; simpa using this
        have hxe : x = f i := by simp [hi] at hx; exact hx.symm
        subst hxe
        have hcc := (World.cells?_some (hf2 i hi).1).2.2
        have hadd : ∀ k, ((⟨b, off, none⟩ : Addr).add (i * 4)).add k = ⟨b, off + i * 4 + k, none⟩ := fun k => by
          unfold Addr.add
          split <;> split <;> simp_all
        have k0 := hcc 0 (by decide)
        have k1 := hcc 1 (by decide)
        have k2 := hcc 2 (by decide)
        have k3 := hcc 3 (by decide)
        rw [hadd] at k0 k1 k2 k3
        exact ⟨k0, k1, k2, k3⟩
    · intro x hx
      simp at hx
      obtain ⟨i, hi, rfl⟩ := hx
      exact (hf2 i hi).2
end

end Go.Proofs.YtcjmmblkcdpgoaaGreatDoor
