/- The texts that this proof stands on, part 5 of 6. -/
import Derived.Test.YtbnfggnklhfimaaGreatM4
import Derived.Test.YtbnfggnklhfimaaGreatM2
import Derived.Test.YtbnfggnklhfimaaGreatM1
import Derived.Deep.RegionHeld3
import Derived.Deep.CutBlock
import Derived.Deep.DeepCutAuto
import Derived.Laws.OwnMore
import Derived.RegionTactic
import Derived.BigRegion
import Derived.ChangeKeysEq
import Derived.Laws.StructEq

/- Whether a number has a point or an exponent, whatever its bytes. -/
namespace Go.Proofs.YtbnfggnklhfimaaGreat
open Go.RowKit

theorem enc_hi3 (r : Int) (h0 : 128 ≤ r) (hv : Lib.validRune r = true) : (∃ a b, Utf8.encode r = ⟨#[a, b]⟩ ∧ 128 ≤ b.toNat) ∨ (∃ a b c, Utf8.encode r = ⟨#[a, b, c]⟩ ∧ 128 ≤ c.toNat) ∨ (∃ a b c d, Utf8.encode r = ⟨#[a, b, c, d]⟩) := by
  have hr : Utf8.valid r = true := by
    unfold Lib.validRune at hv
    have := of_decide_eq_true hv
    unfold Utf8.valid
    simp
    omega
  unfold Utf8.encode
  rw [hr]
  simp only [if_true]
  rw [if_neg (by omega)]
  split
  · refine .inl ⟨_, _, rfl, ?_⟩
    simp
    omega
  · split
    · refine .inr (.inl ⟨_, _, _, rfl, ?_⟩)
      simp
      omega
    · exact .inr (.inr ⟨_, _, _, _, rfl⟩)

set_option maxRecDepth 100000 in
set_option maxHeartbeats 4000000 in
theorem runeHi3_any (r : Int) (w : World) (h0 : 128 ≤ r) (h1 : r ≤ 2147483647) :
    Calls Tryz.prog 91 #[.string ⟨#[46, 101, 69]⟩, .int .i32 r] w fun e w' => e = .returned (.int .i64 (-1)) ∧ Below w.heap.size w w' := by
  have g1 : ¬ r < 128 := by omega
  have g0 : (0 : Int) ≤ r := by omega
  rcases eqk r 65533 with ⟨he, heb⟩ | ⟨he, heb⟩
  · subst he
    have n0 := fun ty => run_next_ascii (P := Tryz.prog) w ⟨#[46, 101, 69]⟩ 0 ty (by decide) (by decide)
    have n1 := fun ty => run_next_ascii (P := Tryz.prog) w ⟨#[46, 101, 69]⟩ 1 ty (by decide) (by decide)
    have n2 := fun ty => run_next_ascii (P := Tryz.prog) w ⟨#[46, 101, 69]⟩ 2 ty (by decide) (by decide)
    have n3 := fun ty => run_next_end (P := Tryz.prog) w ⟨#[46, 101, 69]⟩ 3 ty (by decide)
    go_enter Tryz.func91, Tryz.ntmps91
    go_wp2_with fail
    go_loopw [176] (fun _ wr => ∃ i : Nat, i ≤ 3 ∧ wr = w.iter ⟨#[46, 101, 69]⟩ i) (fun _ wr => 3 - wr.iterPos w.heap.size)
    case atStart => exact ⟨0, by omega, rfl⟩
    case round =>
      obtain ⟨i, hi, rfl⟩ := hrel
      obtain rfl | rfl | rfl | rfl : i = 0 ∨ i = 1 ∨ i = 2 ∨ i = 3 := by omega
      · go_wp2_with fail
        go_round
        case rel => exact ⟨1, by omega, rfl⟩
        case measure => simp
      · go_wp2_with fail
        go_round
        case rel => exact ⟨2, by omega, rfl⟩
        case measure => simp
      · go_wp2_with fail
        go_round
        case rel => exact ⟨3, by omega, rfl⟩
        case measure => simp
      · go_wp2_with fail
        go_ret
        exact ⟨rfl, (Below.refl _ w).alloc (Nat.le_refl _) _⟩
  · have cv := fun w => Tryz.utf8_ValidRune r w
    cases hv : Lib.validRune r
    · rw [hv] at cv
      have CV := hide cv
      clear cv hv he
      go_enter Tryz.func91, Tryz.ntmps91
      go_wp2_with fail
      refine (unhide CV _).mono ?_
      rintro e w1 ⟨rfl, rfl⟩
      go_wp2_with fail
      go_ret
      exact ⟨rfl, Below.refl _ _⟩
    · rw [hv] at cv
      have CV := hide cv
      rcases enc_hi3 r h0 hv with ⟨a, b, hE, hb⟩ | ⟨a, b, c, hE, hb⟩ | ⟨a, b, c, d, hE⟩
      · skip
        have ci := fun w => Tryz.strings_IndexByte ⟨#[69]⟩ (b.toNat : Int) w
        have hng : Lib.indexByte (⟨#[69]⟩ : ByteArray).data.toList (((b.toNat : Int)).toNat.toUInt8) = -1 := by
          rw [show (((b.toNat : Int)).toNat.toUInt8) = b by simp]
          have h69 : ((69 : UInt8) == b) = false := by rw [beq_eq_false_iff_ne]; intro e; rw [← e] at hb; exact absurd hb (by decide)
          show Lib.indexByte [69] b = -1
          skip
          simp [Lib.indexByte, h69]
          try (intro e; rw [← e] at hb; exact absurd hb (by decide))
          try (intro e; rw [e] at hb; exact absurd hb (by decide))
        rw [hng] at ci
        have CI := hide ci
        have hbb : ((101 : Int) == (b.toNat : Int)) = false := by rw [beq_eq_false_iff_ne]; omega
        have hbn : ((101 : Int) != (b.toNat : Int)) = true := by rw [bne, hbb]; rfl
        have hcx : ((((⟨#[46, 101, 69]⟩ : ByteArray)[1]'(by decide)).toNat : Int) != (((⟨#[a, b]⟩ : ByteArray)[1]'(by show 1 < 2; decide)).toNat : Int)) = true := hbn
        clear cv hv he ci hbn hbb hng
        go_enter Tryz.func91, Tryz.ntmps91
        go_wp2_with fail
        refine (unhide CV _).mono ?_
        rintro e w1 ⟨rfl, hw⟩
        subst w1
        go_wp2_with fail
        go_step3
        go_wp2_with fail
        go_loopw [9] (fun i wr => i = .int .i64 1 ∧ wr = w) (fun _ _ => 0)
        case atStart => exact ⟨rfl, rfl⟩
        case round =>
          obtain ⟨rfl, rfl⟩ := hrel
          go_wp2_with fail
          go_step3
          go_wp2_with fail
          go_quiet (fail)
          go_wp2_with fail
          go_quiet ((go_at_call 71; exact (unhide CI _).mono fun _ _ h => ⟨h.1, _, h.2⟩))
          go_wp2_with fail
          rw [Exit.noGoto_ret]
          simp only [Exit.inBlock]
          (try go_wp2_with fail)
          rw [Exit.noGoto_ret]
          simp only [Exit.inBlock]
          go_ret
          exact ⟨rfl, drw _ _ _⟩
      · skip
        have ci := fun w => Tryz.strings_IndexByte ⟨#[]⟩ (c.toNat : Int) w
        have hng : Lib.indexByte (⟨#[]⟩ : ByteArray).data.toList (((c.toNat : Int)).toNat.toUInt8) = -1 := by
          rw [show (((c.toNat : Int)).toNat.toUInt8) = c by simp]
          rfl
        rw [hng] at ci
        have CI := hide ci
        have hbb : ((69 : Int) == (c.toNat : Int)) = false := by rw [beq_eq_false_iff_ne]; omega
        have hbn : ((69 : Int) != (c.toNat : Int)) = true := by rw [bne, hbb]; rfl
        have hcx : ((((⟨#[46, 101, 69]⟩ : ByteArray)[2]'(by decide)).toNat : Int) != (((⟨#[a, b, c]⟩ : ByteArray)[2]'(by show 2 < 3; decide)).toNat : Int)) = true := hbn
        clear cv hv he ci hbn hbb hng
        go_enter Tryz.func91, Tryz.ntmps91
        go_wp2_with fail
        refine (unhide CV _).mono ?_
        rintro e w1 ⟨rfl, hw⟩
        subst w1
        go_wp2_with fail
        go_step3
        go_wp2_with fail
        go_loopw [9] (fun i wr => i = .int .i64 2 ∧ wr = w) (fun _ _ => 0)
        case atStart => exact ⟨rfl, rfl⟩
        case round =>
          obtain ⟨rfl, rfl⟩ := hrel
          go_wp2_with fail
          go_step3
          go_wp2_with fail
          go_quiet (fail)
          go_wp2_with fail
          go_quiet ((go_at_call 71; exact (unhide CI _).mono fun _ _ h => ⟨h.1, _, h.2⟩))
          go_wp2_with fail
          rw [Exit.noGoto_ret]
          simp only [Exit.inBlock]
          (try go_wp2_with fail)
          rw [Exit.noGoto_ret]
          simp only [Exit.inBlock]
          go_ret
          exact ⟨rfl, drw _ _ _⟩
      · clear cv hv he
        go_enter Tryz.func91, Tryz.ntmps91
        go_wp2_with fail
        refine (unhide CV _).mono ?_
        rintro e w1 ⟨rfl, hw⟩
        subst w1
        go_wp2_with fail
        go_step3
        go_wp2_with fail
        go_loopw [9] (fun i wr => i = .int .i64 3 ∧ wr = w) (fun _ _ => 0)
        case atStart => exact ⟨rfl, rfl⟩
        case round =>
          obtain ⟨rfl, rfl⟩ := hrel
          go_wp2_with fail
          (try rw [Exit.noGoto_ret])
          go_ret
          exact ⟨rfl, Below.refl _ _⟩

theorem hi_not3 {c : UInt8} (h : 128 ≤ c.toNat) : [(46 : UInt8), 101, 69].contains c = false := by
  have h0 : (c == 46) = false := by rw [beq_eq_false_iff_ne]; intro e; rw [e] at h; exact absurd h (by decide)
  have h1 : (c == 101) = false := by rw [beq_eq_false_iff_ne]; intro e; rw [e] at h; exact absurd h (by decide)
  have h2 : (c == 69) = false := by rw [beq_eq_false_iff_ne]; intro e; rw [e] at h; exact absurd h (by decide)
  simp [List.contains, List.elem, h0, h1, h2]

set_option maxRecDepth 100000 in
set_option maxHeartbeats 4000000 in
theorem idxShort3_any (s : ByteArray) (w : World) (h8 : s.size ≤ 8) :
    Calls Tryz.prog 75 #[.string s, .string ⟨#[46, 101, 69]⟩] w fun e w' => e = .returned (.int .i64 (Lib.indexAny s.data.toList [46, 101, 69])) ∧ Below w.heap.size w w' := by
  have h8z : ¬ (8 : Int) < (s.size : Int) := by omega
  have cu := fun w => Tryz.strings_shouldUseASCIISet (s.size : Int) w
  rw [decide_eq_false h8z] at cu
  have hI : IterAt (w.iter s 0) w.heap.size s 0 := World.iter_heap w s 0
  have hB : Below w.heap.size w (w.iter s 0) := (Below.refl _ w).alloc (Nat.le_refl _) _
  have CU := hide cu
  have HI := hide hI
  have HB := hide hB
  clear cu hI hB h8z
  go_enter Tryz.func75, Tryz.ntmps75
  go_wp2_with fail
  refine (unhide CU _).mono ?_
  rintro e w1 ⟨rfl, hw⟩
  subst w1
  go_wp2_with fail
  go_loopg [9, 10] (s.size + 1) (fun g _ _ wx => ∃ i : Nat, s.size < i + g ∧ Hid (IterAt wx w.heap.size s i) ∧ Hid (Below w.heap.size w wx) ∧ Hid (Lib.NoAny s.data.toList [46, 101, 69] i))
  case atStart => exact ⟨0, by omega, HI, HB, hide (Lib.NoAny.zero _ _)⟩
  case round =>
    clear HI HB
    obtain ⟨i, hig, HI, HB, HN⟩ := hrel
    by_cases hi : i < s.size
    · obtain ⟨x, hx⟩ : ∃ x : UInt8, s[i]'hi = x := ⟨_, rfl⟩
      have hxl : s.data.toList[i]? = some x := by rw [← hx]; exact Lib.data_getElem? s i hi
      have hgx : s.get! i = x := get_data s i hxl
      have hlt := (HI.out).lt
      have hle : w.heap.size ≤ w.heap.size := Nat.le_refl _
      by_cases hx128 : x.toNat < 128
      · have hn := fun ty => run_next_at HI.out ty hi
        rw [decode_ascii s i hi (by rw [hx]; exact hx128), hx] at hn
        simp only at hn
        have HI2 := hide (iterTo_at HI.out (i + 1))
        have HB2 := hide (iterTo_below (s := s) HB.out hle (i + 1))
        have ci := fun w => Tryz.strings_IndexRune_ascii ⟨#[46, 101, 69]⟩ (x.toNat : Int) w (by omega) (by omega)
        have hback : ((x.toNat : Int)).toNat.toUInt8 = x := by simp
        rw [hback] at ci
        have hcon := Lib.contains_iff_indexByte [46, 101, 69] x
        have CI := hide ci
        have Hx := hide hxl
        clear ci hxl hx hgx HI HB hback
        cases hin : [(46 : UInt8), 101, 69].contains x
        · rw [hin] at hcon
          have hlt0 : ¬ ((0 : Int) ≤ Lib.indexByte [46, 101, 69] x) := of_decide_eq_false hcon.symm
          have HN2 := hide ((HN.out).succ Hx.out hin)
          clear hcon hin HN
          go_wp2_with fail
          refine (unhide CI _).mono ?_
          rintro e w2 ⟨rfl, hw⟩
          subst w2
          go_wp2_with fail
          cases gk with
          | zero => omega
          | succ g =>
            go_roundg g
            case measure => omega
            case rel => exact ⟨i + 1, by omega, HI2, HB2, HN2⟩
        · rw [hin] at hcon
          have hge : (0 : Int) ≤ Lib.indexByte [46, 101, 69] x := of_decide_eq_true hcon.symm
          have HV := hide (Lib.indexAny_hit HN.out Hx.out hin)
          clear hcon hin HN
          go_wp2_with fail
          refine (unhide CI _).mono ?_
          rintro e w2 ⟨rfl, hw⟩
          subst w2
          go_wp2_with fail
          go_ret
          exact ⟨by rw [HV.out]; rfl, HB2.out⟩
      · have hh : 128 ≤ (s[i]'hi).toNat := by rw [hx]; omega
        obtain ⟨hd1, hd2⟩ := decode_high s i hi hh
        have hd3 := decode_le s i
        have hcont := dec_cont s i (by rw [hgx]; omega)
        have hn := fun ty => run_next_at HI.out ty hi
        have HN2 : Hid (Lib.NoAny s.data.toList [46, 101, 69] (i + (Utf8.decode s i).2)) := hide (fun j b hj hb => by
          rcases Nat.lt_trichotomy j i with h | h | h
          · exact (HN.out) j b h hb
          · subst h
            rw [hxl] at hb
            obtain rfl := Option.some.inj hb
            exact hi_not3 (by omega)
          · have := (hcont j h hj).2
            rw [get_data s j hb] at this
            exact hi_not3 this)
        generalize (Utf8.decode s i).1 = R at *
        generalize (Utf8.decode s i).2 = M at *
        have HI2 := hide (iterTo_at HI.out (i + M))
        have HB2 := hide (iterTo_below (s := s) HB.out hle (i + M))
        have ci := fun w => runeHi3_any (R : Int) w (by omega) (by omega)
        have CI := hide ci
        clear ci hcont HI HB HN hxl hx hgx hh hx128
        go_wp2_with fail
        refine (unhide CI _).mono ?_
        rintro e w2 ⟨rfl, hb⟩
        have HI3 := hide ((HI2.out).below hb)
        have HB3 := hide ((HB2.out).trans (hb.mono (HB2.out).size))
        clear hb HI2 HB2 CI
        go_wp2_with fail
        cases gk with
        | zero => omega
        | succ g =>
          go_roundg g
          case measure => omega
          case rel => exact ⟨i + M, by omega, HI3, HB3, HN2⟩
    · have hn := fun ty => run_next_done HI.out ty hi
      have hv : Lib.indexAny s.data.toList [46, 101, 69] = -1 := Lib.indexAny_none (fun j b hj hb => (HN.out) j b (by simp at hj; omega) hb)
      have HV := hide hv
      clear hv HN
      go_wp2_with fail
      go_ret
      exact ⟨by rw [HV.out]; rfl, HB.out⟩

theorem idxDEE_any (s : ByteArray) (w : World) (hs : s.size ≤ 2000000) :
    Calls Tryz.prog 75 #[.string s, .string ⟨#[46, 101, 69]⟩] w fun e w' => e = .returned (.int .i64 (Lib.indexAny s.data.toList [46, 101, 69])) ∧ Below w.heap.size w w' := by
  by_cases h8 : s.size ≤ 8
  · exact idxShort3_any s w h8
  · refine (Tryz.strings_IndexAny_long (zero_of_info info_set).1 s ⟨#[46, 101, 69]⟩ w (by decide) (by omega) (by omega) (by decide) (ascii_of_all (by decide))).mono fun e w' h => ⟨h.1, ?_⟩
    rw [h.2]
    exact ((Below.refl _ w).alloc (Nat.le_refl _) _).alloc (by simp) _

/-- A number has a point or an exponent. -/
def deeB (s : ByteArray) : Bool := decide (0 ≤ Lib.indexAny s.data.toList [46, 101, 69])

set_option maxRecDepth 100000 in
set_option maxHeartbeats 2000000 in
theorem containsDEE_any (s : ByteArray) (w : World) (hs : s.size ≤ 2000000) :
    Calls Tryz.prog 57 #[.string s, .string ⟨#[46, 101, 69]⟩] w fun e w' => e = .returned (.bool (deeB s)) ∧ Below w.heap.size w w' := by
  have ci := idxDEE_any s w hs
  unfold deeB
  generalize Lib.indexAny s.data.toList [46, 101, 69] = P at *
  have CI := hide ci
  clear ci
  go_enter Tryz.func57, Tryz.ntmps57
  go_wp2_with fail
  refine Calls.mono CI.out ?_
  rintro e w1 ⟨rfl, hb⟩
  go_wp2_with fail
  go_ret
  exact ⟨by simp, hb⟩

end Go.Proofs.YtbnfggnklhfimaaGreat

/- Small letters of texts of any length. -/
namespace Go.Proofs.YtbnfggnklhfimaaGreat
open Go.RowKit

theorem low_one (c : UInt8) : (lowB c).size ≤ 1 := by unfold lowB; exact Nat.le_of_ble_eq_true rfl

theorem eb_len1 {g : Nat → ByteArray} (h : ∀ k, (g k).size ≤ 1) : ∀ n, (eb g n).length ≤ n
  | 0 => by simp [eb]
  | n + 1 => by
    have ih := eb_len1 h n
    have hn := h n
    unfold eb
    simp
    omega

theorem eb_size1 {g : Nat → ByteArray} (h : ∀ k, (g k).size ≤ 1) (n : Nat) : (⟨(eb g n).toArray⟩ : ByteArray).size ≤ n := by
  have := eb_len1 h n
  show (eb g n).toArray.size ≤ n
  simpa using this

set_option maxRecDepth 100000 in
set_option maxHeartbeats 2000000 in
theorem eachByte1_any (s : ByteArray) (F : Nat) (c : Value) (g : Nat → ByteArray) (w : World) (hs : s.size ≤ 140737488351232) (hg : ∀ k, (g k).size ≤ 1)
    (eF : ∀ args w, (callFunc F args).run Tryz.prog w = .ok (.enter F args) w)
    (hc : ∀ (k : Nat) w', k < s.size → Below w.heap.size w w' → Calls Tryz.prog F #[.int .i64 (k : Int), c] w' fun e w'' => e = .returned (.string (g k)) ∧ Below w'.heap.size w' w'') :
    Calls Tryz.prog 55 #[.string s, .func (.func F) #[] #[c]] w fun e w' => e = .returned (.string ⟨(eb g s.size).toArray⟩) ∧ Below w.heap.size w w' := by
  have h0 : Lib.IsBuilder 105 5 w.heap.size w.heap.size (Lib.byteCells []) (w.alloc (.cells #[.pointer none, .slice none 0 0] 105)) := Lib.fresh_isBuilder _ _ w
  have b0 : Below w.heap.size w (w.alloc (.cells #[.pointer none, .slice none 0 0] 105)) := (Below.refl _ w).alloc (Nat.le_refl _) _
  have HC := hide hc
  have HG := hide hg
  clear hc hg
  go_enter Tryz.func55, Tryz.ntmps55
  go_wp2_with fail
  go_loopw [9] (fun i wr => ∃ k : Nat, k ≤ s.size ∧ i = .int .i64 (k : Int) ∧ Lib.IsBuilder 105 5 w.heap.size w.heap.size (Lib.byteCells (eb g k)) wr ∧ Below w.heap.size w wr) (fun i _ => ((s.size : Int) - intOf i).toNat)
  case atStart => exact ⟨0, Nat.zero_le _, by go_num, h0, b0⟩
  case round =>
    clear h0 b0
    obtain ⟨k, hk, rfl, hI, hB⟩ := hrel
    by_cases hlt : k < s.size
    · have hi : (k : Int) < (s.size : Int) := by omega
      have hl := eb_len1 HG.out k
      have hgk := HG.out k
      go_wp2_with fail
      refine (unhide HC k _ hlt hB).mono ?_
      rintro e w1 ⟨rfl, hb1⟩
      have hI1 : Lib.IsBuilder 105 5 w.heap.size w.heap.size (Lib.byteCells (eb g k)) w1 := builder_below hI hb1
      have hB1 := hB.trans (hb1.mono hB.size)
      go_wp2_with fail
      refine (writeStr_any w.heap.size w.heap.size _ (g k) _ hI1 (by rw [Lib.byteCells_length]; omega) hB1.size).mono ?_
      rintro e w2 ⟨rfl, hI2, hb2⟩
      rw [cells_app] at hI2
      have hB2 := hB1.trans hb2
      clear hI hI1 hb1 hb2 hB hB1
      go_wp2_with fail
      go_round
      case rel => exact ⟨k + 1, by omega, by go_num, hI2, hB2⟩
      case measure => simp [intOf]; omega
    · have hi : ¬ (k : Int) < (s.size : Int) := by omega
      obtain rfl : k = s.size := by omega
      go_wp2_with fail
      refine (Tryz.Builder_String_any w.heap.size w.heap.size (eb g s.size) _ hI hB.size).mono ?_
      rintro e w1 ⟨rfl, hb1⟩
      have hB1 := hB.trans hb1
      clear hI hb1 hB
      go_wp2_with fail
      go_ret
      exact ⟨rfl, hB1⟩

set_option maxRecDepth 100000 in
set_option maxHeartbeats 1000000 in
theorem lower1_big (s : ByteArray) (k b : Nat) (w : World) (hk : k < s.size) (hs : s.size ≤ 140737488351232) (h0 : Boxed w b 9 (.string s)) :
    Calls Tryz.prog 56 #[.int .i64 (k : Int), .pointer (some ⟨b, 0, none⟩)] w fun e w' => e = .returned (.string (lowB (bt s k))) ∧ Below w.heap.size w w' := by
  have c0 := h0.cell
  rw [bt_at hk]
  have he := fun w => sl_one hk w
  have hki : (k : Int) < (s.size : Int) := by omega
  by_cases hr : 65 ≤ s[k].toNat ∧ s[k].toNat ≤ 90
  · have h1 : (65 : Int) ≤ (s[k].toNat : Int) := by omega
    have h2 : (s[k].toNat : Int) ≤ 90 := by omega
    have hlo := low_in hr.1 hr.2
    have hrn := rune_low (s[k].toNat + 32) (by omega) (by omega)
    have hca : ((s[k].toNat + 32 : Nat) : Int) = (s[k].toNat : Int) - 65 + 97 := by omega
    rw [hca] at hrn
    have HLO := hide hlo
    clear hr hlo hca he
    go_enter Tryz.func56, Tryz.ntmps56
    go_wp2_with fail
    go_ret
    exact ⟨by rw [HLO.out]; rfl, Below.refl _ _⟩
  · have hlo := low_out hr
    have HLO := hide hlo
    clear hlo
    by_cases h1 : (65 : Int) ≤ (s[k].toNat : Int)
    · have h2 : ¬ (s[k].toNat : Int) ≤ 90 := by omega
      clear hr
      go_enter Tryz.func56, Tryz.ntmps56
      go_wp2_with fail
      go_ret
      exact ⟨by rw [HLO.out]; rfl, Below.refl _ _⟩
    · clear hr
      go_enter Tryz.func56, Tryz.ntmps56
      go_wp2_with fail
      go_ret
      exact ⟨by rw [HLO.out]; rfl, Below.refl _ _⟩

set_option maxRecDepth 100000 in
set_option maxHeartbeats 1000000 in
theorem lower_big (s : ByteArray) (w : World) (hs : s.size ≤ 140737488351232) :
    Calls Tryz.prog 42 #[.string s] w fun e w' => e = .returned (.string (lowV s)) ∧ Below w.heap.size w w' := by
  have hbx := Boxed.new w 9 (.string s)
  have hb0 : Below w.heap.size w (w.alloc (.cells #[.string s] 9)) := (Below.refl _ w).alloc (Nat.le_refl _) _
  have c0 := hbx.cell
  have ce := eachByte1_any s 56 (.pointer (some ⟨w.heap.size, 0, none⟩)) (fun k => lowB (bt s k)) (w.alloc (.cells #[.string s] 9)) hs (fun k => low_one _) (enters_of Tryz.func56 (by kernel_rfl) rfl)
    (fun k w' hk hb => lower1_big s k w.heap.size w' hk hs (boxed_below hbx hb hbx.lt))
  have CE := hide ce
  clear ce hbx
  go_enter Tryz.func42, Tryz.ntmps42
  go_wp2_with fail
  refine (CE.out).mono ?_
  rintro e w1 ⟨rfl, hb1⟩
  have hB := hb0.trans (hb1.mono hb0.size)
  clear hb1 CE c0
  go_wp2_with fail
  go_ret
  exact ⟨rfl, hB⟩

set_option maxRecDepth 100000 in
set_option maxHeartbeats 1000000 in
theorem iis_big (s t : ByteArray) (w : World) (hs : s.size ≤ 140737488351232) (ht : t.size ≤ 140737488351232) :
    Calls Tryz.prog 29 #[.string s, .string t] w fun e w' => e = .returned (.bool ((lowV s).toList == (lowV t).toList)) ∧ Below w.heap.size w w' := by
  have c1 := fun w => lower_big s w hs
  have c2 := fun w => lower_big t w ht
  generalize lowV s = A at *
  generalize lowV t = B at *
  go_enter Tryz.func29, Tryz.ntmps29
  go_wp2_with fail
  refine (c1 _).mono ?_
  rintro e w1 ⟨rfl, hb1⟩
  go_wp2_with fail
  refine (c2 _).mono ?_
  rintro e w2 ⟨rfl, hb2⟩
  have hB := hb1.trans (hb2.mono hb1.size)
  clear hb1 hb2
  go_wp2_with fail
  go_ret
  exact ⟨rfl, hB⟩

set_option maxRecDepth 100000 in
set_option maxHeartbeats 2000000 in
theorem rlower_big (s : ByteArray) (w : World) (hs : s.size ≤ 140737488351232) :
    Calls Tryz.prog 45 #[.string s] w fun e w' => e = .returned (.string (lowV s)) ∧ Below w.heap.size w w' := by
  have hg : ∀ k, ((fun k => lowB (bt s k)) k).size ≤ 1 := fun k => low_one _
  unfold lowV
  have hat : ∀ (k : Nat) (h : k < s.size), (fun k => lowB (bt s k)) k = lowB s[k] := fun k h => by show lowB (bt s k) = _; rw [bt_at h]
  generalize (fun k => lowB (bt s k)) = g at *
  have HAT := hide hat
  have HG := hide hg
  clear hat hg
  go_enter Tryz.func45, Tryz.ntmps45
  go_wp2_with fail
  go_loopw [3, 4] (fun o i wr => ∃ k : Nat, k ≤ s.size ∧ o = .string ⟨(eb g k).toArray⟩ ∧ i = .int .i64 (k : Int) ∧ Below w.heap.size w wr) (fun _ i _ => ((s.size : Int) - intOf i).toNat)
  case atStart => exact ⟨0, Nat.zero_le _, rfl, by go_num, Below.refl _ _⟩
  case round =>
    obtain ⟨k, hk, rfl, rfl, hB⟩ := hrel
    by_cases hlt : k < s.size
    · have hi : (k : Int) < (s.size : Int) := by omega
      have hz := eb_size1 HG.out k
      have hap := eb_app g k
      rw [HAT.out k hlt] at hap
      have hap2 : Hid ((⟨(eb g k).toArray⟩ : ByteArray) ++ lowB s[k] = ⟨(eb g (k + 1)).toArray⟩) := hap
      clear hap
      generalize hE : (⟨(eb g k).toArray⟩ : ByteArray) = E at *
      by_cases hr : 65 ≤ s[k].toNat ∧ s[k].toNat ≤ 90
      · have h1 : (65 : Int) ≤ (s[k].toNat : Int) := by omega
        have h2 : (s[k].toNat : Int) ≤ 90 := by omega
        have hlo := low_in hr.1 hr.2
        have hcv := conv1 wr ((s[k].toNat : Int) - 65 + 97)
        rw [show ((s[k].toNat : Int) - 65 + 97).toNat = s[k].toNat + 32 by omega, ← hlo] at hcv
        have hl1 := low_one s[k]
        generalize lowB s[k] = LB at *
        clear hlo hr hE
        have hB2 : Below w.heap.size w (wr.alloc (.cells #[.int .u8 ((s[k].toNat : Int) - 65 + 97)] 5)) := hB.alloc hB.size _
        go_wp2_with fail
        go_round
        case rel => exact ⟨k + 1, by omega, by rw [hap2.out], by go_num, hB2⟩
        case measure => simp [intOf]; omega
      · have hlo := low_out hr
        have hcv := conv1 wr (s[k].toNat : Int)
        rw [ofNat_back, ← hlo] at hcv
        have hl1 := low_one s[k]
        generalize lowB s[k] = LB at *
        have hB2 : Below w.heap.size w (wr.alloc (.cells #[.int .u8 (s[k].toNat : Int)] 5)) := hB.alloc hB.size _
        by_cases h1 : (65 : Int) ≤ (s[k].toNat : Int)
        · have h2 : ¬ (s[k].toNat : Int) ≤ 90 := by omega
          clear hlo hr hE
          go_wp2_with fail
          go_round
          case rel => exact ⟨k + 1, by omega, by rw [hap2.out], by go_num, hB2⟩
          case measure => simp [intOf]; omega
        · clear hlo hr hE
          go_wp2_with fail
          go_round
          case rel => exact ⟨k + 1, by omega, by rw [hap2.out], by go_num, hB2⟩
          case measure => simp [intOf]; omega
    · have hi : ¬ (k : Int) < (s.size : Int) := by omega
      obtain rfl : k = s.size := by omega
      go_wp2_with fail
      go_ret
      exact ⟨rfl, hB⟩

set_option maxRecDepth 100000 in
set_option maxHeartbeats 1000000 in
theorem ris4_big (s t : ByteArray) (w : World) (hs : s.size ≤ 140737488351232) (ht : t.size ≤ 140737488351232) :
    Calls Tryz.prog 36 #[.string s, .string t] w fun e w' => e = .returned (.bool ((lowV s).toList == (lowV t).toList)) ∧ Below w.heap.size w w' := by
  have c1 := fun w => rlower_big s w hs
  have c2 := fun w => rlower_big t w ht
  generalize lowV s = A at *
  generalize lowV t = B at *
  go_enter Tryz.func36, Tryz.ntmps36
  go_wp2_with fail
  refine (c1 _).mono ?_
  rintro e w1 ⟨rfl, hb1⟩
  go_wp2_with fail
  refine (c2 _).mono ?_
  rintro e w2 ⟨rfl, hb2⟩
  have hB := hb1.trans (hb2.mono hb1.size)
  clear hb1 hb2
  go_wp2_with fail
  go_ret
  exact ⟨rfl, hB⟩

end Go.Proofs.YtbnfggnklhfimaaGreat

/- Keywords and signs, read of words. -/
namespace Go.Proofs.YtbnfggnklhfimaaGreat
open Go.RowKit

/-- Two texts are the same keyword. -/
def isB (s t : ByteArray) : Bool := (lowV s).toList == (lowV t).toList

/-- The place of the first text that is asked for, or -1. -/
def idxP (p : ByteArray → Bool) : List ByteArray → Int
  | [] => -1
  | z :: r => if p z = true then 0 else if idxP p r < 0 then -1 else idxP p r + 1

theorem idxP_none {p : ByteArray → Bool} : ∀ {zs : List ByteArray}, (∀ i, i < zs.length → p (zs.getD i ByteArray.empty) = false) → idxP p zs = -1
  | [], _ => rfl
  | z :: r, h => by
    have h0 := h 0 (by simp)
    have ih := idxP_none (p := p) (zs := r) (fun i hi => by have := h (i + 1) (by simpa using hi); simpa using this)
    simp only [List.getD_cons_zero] at h0
    unfold idxP
    rw [if_neg (by rw [h0]; simp), if_pos (by rw [ih]; decide)]

theorem idxP_hit {p : ByteArray → Bool} : ∀ {zs : List ByteArray} {j : Nat}, (∀ i, i < j → p (zs.getD i ByteArray.empty) = false) → j < zs.length → p (zs.getD j ByteArray.empty) = true → idxP p zs = (j : Int)
  | [], j, _, hj, _ => absurd hj (by simp)
  | z :: r, 0, _, _, hp => by
    simp only [List.getD_cons_zero] at hp
    unfold idxP
    rw [if_pos hp]; rfl
  | z :: r, j + 1, h, hj, hp => by
    have h0 := h 0 (by omega)
    simp only [List.getD_cons_zero] at h0
    have ih := idxP_hit (p := p) (zs := r) (j := j) (fun i hi => by have := h (i + 1) (by omega); simpa using this) (by simpa using hj) (by simpa using hp)
    unfold idxP
    rw [if_neg (by rw [h0]; simp), if_neg (by rw [ih]; omega), ih]; simp

theorem idxP_bd (p : ByteArray → Bool) : ∀ zs : List ByteArray, -1 ≤ idxP p zs ∧ idxP p zs < zs.length
  | [] => by simp [idxP]
  | z :: r => by
    have ih := idxP_bd p r
    unfold idxP
    split
    · exact ⟨by decide, by simp⟩
    · split
      · exact ⟨by decide, by simp; omega⟩
      · simp; omega

theorem idxP_false {p : ByteArray → Bool} (zs : List ByteArray) (h : ∀ z, p z = false) : idxP p zs = -1 := idxP_none fun _ _ => h _

/-- The keyword that stands at a place, and the place behind it. -/
def kwP (l : List Tk) (at_ : Int) (z : ByteArray) : Bool := decide ((tkV l at_).1.1 = 1) && isB (tkV l at_).2.1 z

def keywV (l : List Tk) (at_ : Int) (zs : List ByteArray) : Int × Int := if idxP (kwP l at_) zs < 0 then (-1, at_) else (idxP (kwP l at_) zs, at_ + 1)

/-- A sign stands at a place. -/
def signV (l : List Tk) (at_ : Int) (s : ByteArray) : Bool := decide ((tkV l at_).1.1 = 7) && ((tkV l at_).2.1.toList == s.toList)

theorem tk_in {l : List Tk} {i : Int} (h : ¬ (tkV l i).1.1 = 8) : 0 ≤ i ∧ i < l.length := by
  unfold tkV at h
  rcases Int.lt_or_le i 0 with hn | hn
  · rw [if_pos hn] at h; exact absurd rfl h
  · refine ⟨hn, ?_⟩
    rcases Int.lt_or_le i l.length with hl | hl
    · exact hl
    · rw [if_neg (by omega), List.getD, List.getElem?_eq_none (by omega)] at h
      exact absurd rfl h

theorem TxAt.below {w w' : World} {b : Nat} {zs : List ByteArray} (h : TxAt w b zs) (hb : Below w.heap.size w w') (hl : b < w.heap.size) : TxAt w' b zs := fun j hj => (hb.cell (p := ⟨b, 0 + j, none⟩) hl).trans (h j hj)

set_option maxRecDepth 100000 in
set_option maxHeartbeats 2000000 in
theorem kwf_any (k at_ : Int) (tx nm s : ByteArray) (b : Nat) (w : World) (h : TkAt b k at_ tx nm w) (ht : tx.size ≤ 2000000) (hs : s.size ≤ 140737488351232) :
    Calls Tryz.prog 28 #[.string s, .pointer (some ⟨b, 0, none⟩)] w fun e w' => e = .returned (.bool (decide (k = 1) && isB tx s)) ∧ Below w.heap.size w w' := by
  have c0 := h.c0
  have c2 := h.c2
  have ci := iis_big tx s w (by omega) hs
  unfold isB
  generalize ((lowV tx).toList == (lowV s).toList) = q at *
  have CI := hide ci
  clear ci h
  rcases eqk k 1 with ⟨h1, h1b⟩ | ⟨h1, h1b⟩
  · subst h1
    go_enter Tryz.func28, Tryz.ntmps28
    go_wp2_with fail
    refine Calls.mono CI.out ?_
    rintro e w1 ⟨rfl, hb⟩
    go_wp2_with fail
    go_ret
    exact ⟨by simp, hb⟩
  · have hd : decide (k = 1) = false := by simp [h1]
    rw [hd]
    clear h1 hd CI
    go_enter Tryz.func28, Tryz.ntmps28
    go_wp2_with fail
    go_ret
    exact ⟨rfl, Below.refl _ _⟩

set_option maxRecDepth 100000 in
set_option maxHeartbeats 4000000 in
theorem indexFunc_any (zs : List ByteArray) (b n F : Nat) (c : Value) (p : ByteArray → Bool) (w : World) (ht : TxAt w b zs) (hlt : b < w.heap.size) (hn : n = zs.length) (hz : zs.length ≤ 1000)
    (eF : ∀ args w, (callFunc F args).run Tryz.prog w = .ok (.enter F args) w)
    (hc : ∀ (j : Nat) w', j < zs.length → Below w.heap.size w w' → Calls Tryz.prog F #[.string (zs.getD j ByteArray.empty), c] w' fun e w'' => e = .returned (.bool (p (zs.getD j ByteArray.empty))) ∧ Below w'.heap.size w' w'') :
    Calls Tryz.prog 27 #[.slice (some ⟨b, 0, none⟩) n n, .func (.func F) #[] #[c]] w fun e w' => e = .returned (.int .i64 (idxP p zs)) ∧ Below w.heap.size w w' := by
  subst hn
  have HC := hide hc
  have HT := hide ht
  have hb0 := hide (Below.refl w.heap.size w)
  clear hc ht
  go_enter Tryz.func27, Tryz.ntmps27
  go_wp2_with fail
  go_loopw [8] (fun i wr => ∃ k : Nat, k ≤ zs.length ∧ i = .int .i64 (k : Int) ∧ Hid (∀ i, i < k → p (zs.getD i ByteArray.empty) = false) ∧ Hid (Below w.heap.size w wr)) (fun i _ => ((zs.length : Int) - intOf i).toNat)
  case atStart => exact ⟨0, Nat.zero_le _, by go_num, hide (fun i hi => absurd hi (by omega)), hb0⟩
  case round =>
    clear hb0
    obtain ⟨k, hk, rfl, HN, HB⟩ := hrel
    by_cases hlk : k < zs.length
    · have hi : (k : Int) < (zs.length : Int) := by omega
      have hcell : wr.cell? ⟨b, k, none⟩ = some (.string (zs.getD k ByteArray.empty)) := by have := ((HB.out).cell (p := ⟨b, 0 + k, none⟩) hlt).trans ((HT.out) k hlk); rwa [Nat.zero_add] at this
      have cc := unhide HC k _ hlk HB.out
      cases hp : p (zs.getD k ByteArray.empty)
      · have HN2 : Hid (∀ i, i < k + 1 → p (zs.getD i ByteArray.empty) = false) := hide (fun i hi => by
          rcases Nat.lt_or_ge i k with h | h
          · exact (HN.out) i h
          · obtain rfl : i = k := by omega
            exact hp)
        rw [hp] at cc
        generalize zs.getD k ByteArray.empty = z at *
        have CC := hide cc
        clear cc hp HN
        go_wp2_with fail
        refine Calls.mono CC.out ?_
        rintro e w1 ⟨rfl, hb1⟩
        have HB1 := hide ((HB.out).trans (hb1.mono (HB.out).size))
        clear hb1 CC HB hcell
        go_wp2_with fail
        go_round
        case rel => exact ⟨k + 1, by omega, by go_num, HN2, HB1⟩
        case measure => simp [intOf]; omega
      · have HV := hide (idxP_hit HN.out hlk hp)
        rw [hp] at cc
        generalize zs.getD k ByteArray.empty = z at *
        have CC := hide cc
        clear cc hp HN
        go_wp2_with fail
        refine Calls.mono CC.out ?_
        rintro e w1 ⟨rfl, hb1⟩
        have HB1 := hide ((HB.out).trans (hb1.mono (HB.out).size))
        clear hb1 CC HB hcell
        go_wp2_with fail
        go_ret
        exact ⟨by rw [HV.out] <;> rfl, HB1.out⟩
    · have hi : ¬ (k : Int) < (zs.length : Int) := by omega
      obtain rfl : k = zs.length := by omega
      have HV := hide (idxP_none HN.out)
      go_wp2_with fail
      go_ret
      exact ⟨by rw [HV.out] <;> rfl, HB.out⟩

set_option maxRecDepth 100000 in
set_option maxHeartbeats 4000000 in
theorem keyword_any (l : List Tk) (at_ : Int) (zs : List ByteArray) (b n : Nat) (v : Value) (w : World) (h : Tks w v l) (hl : Short l) (ht : TxAt w b zs) (hlt : b < w.heap.size) (hn : n = zs.length) (hz : zs.length ≤ 1000) (hzs : ∀ j, j < zs.length → (zs.getD j ByteArray.empty).size ≤ 140737488351232) :
    Calls Tryz.prog 13 #[v, .int .i64 at_, .slice (some ⟨b, 0, none⟩) n n] w fun e w' => e = .returned (.tuple #[.int .i64 (keywV l at_ zs).1, .int .i64 (keywV l at_ zs).2]) ∧ Below w.heap.size w w' := by
  have cw := wordAt_any l at_ v w h hl.1
  have hsz := (hl.at at_).1
  have hkv : keywV l at_ zs = if idxP (kwP l at_) zs < 0 then (-1, at_) else (idxP (kwP l at_) zs, at_ + 1) := rfl
  have hin : ¬ idxP (kwP l at_) zs < 0 → 0 ≤ at_ ∧ at_ < l.length := fun h0 => tk_in (fun h8 => h0 (by
    rw [idxP_false zs (fun z => by unfold kwP; rw [h8]; rfl)]; decide))
  have hbd := idxP_bd (kwP l at_) zs
  have hll := hl.1
  obtain ⟨ao, m, cap, rfl⟩ : ∃ ao m cap, v = .slice ao m cap := by
    rcases h.val with ⟨_, ao, cap, h⟩ | ⟨b, off, cap, h, _⟩
    · exact ⟨_, _, _, h⟩
    · exact ⟨_, _, _, h⟩
  obtain ⟨k, a, tx, nm, htk⟩ : ∃ k a tx nm, tkV l at_ = ((k, a), tx, nm) := ⟨_, _, _, _, rfl⟩
  have hp : kwP l at_ = fun z => decide (k = 1) && isB tx z := by funext z; unfold kwP; rw [htk]
  rw [htk] at cw hsz
  have ci : ∀ w1, Below w.heap.size w w1 → Calls Tryz.prog 27 #[.slice (some ⟨b, 0, none⟩) n n, .func (.func 28) #[] #[.pointer (some ⟨w1.heap.size, 0, none⟩)]] (w1.alloc (.cells #[.int .i64 k, .int .i64 a, .string tx, .string nm] 43)) fun e w' => e = .returned (.int .i64 (idxP (kwP l at_) zs)) ∧ Below (w1.alloc (.cells #[.int .i64 k, .int .i64 a, .string tx, .string nm] 43)).heap.size (w1.alloc (.cells #[.int .i64 k, .int .i64 a, .string tx, .string nm] 43)) w' := by
    intro w1 hb
    have hb2 := hb.alloc hb.size (.cells #[.int .i64 k, .int .i64 a, .string tx, .string nm] 43)
    have hT := TkAt.new w1 k a tx nm
    refine indexFunc_any zs b n 28 (.pointer (some ⟨w1.heap.size, 0, none⟩)) (kwP l at_) _ (ht.below hb2 hlt) (Nat.lt_of_lt_of_le hlt hb2.size) hn hz (enters_of Tryz.func28 (by kernel_rfl) rfl) (fun j w' hj hb' => ?_)
    rw [hp]
    exact kwf_any k a tx nm _ w1.heap.size w' (hT.below hb' hT.lt) hsz (hzs j hj)
  generalize idxP (kwP l at_) zs = J at *
  have CW := hide cw
  have CI := hide ci
  have HKV := hide hkv
  have HIN := hide hin
  unfold tkW tkA at CW
  clear cw ci hkv hin h ht hl htk hp hsz hz hzs hbd
  clear hn
  go_enter Tryz.func13, Tryz.ntmps13
  go_wp2_with fail
  refine Calls.mono CW.out ?_
  rintro e w1 ⟨rfl, hb1⟩
  have c2 := unhide CI w1 hb1
  have HB1 := hide (hb1.alloc hb1.size (.cells #[.int .i64 k, .int .i64 a, .string tx, .string nm] 43))
  have C2 := hide c2
  clear CI c2 hb1 CW
  go_wp2_with fail
  refine Calls.mono C2.out ?_
  rintro e w2 ⟨rfl, hb2⟩
  have HB2 := hide ((HB1.out).trans (hb2.mono (HB1.out).size))
  clear hb2 C2 HB1
  by_cases hj : J < 0
  · have hv := HKV.out
    rw [if_pos hj] at hv
    have HV := hide hv
    clear hv HKV HIN
    go_wp2_with fail
    go_ret2
    exact ⟨by rw [HV.out] <;> rfl, HB2.out⟩
  · have hv := HKV.out
    rw [if_neg hj] at hv
    have hi := (HIN.out) (by omega)
    have hi1 : at_ + 1 < 9223372036854775807 := by omega
    have hi0 : 0 ≤ at_ := hi.1
    have HV := hide hv
    clear hv HKV HIN hi
    go_wp2_with fail
    go_ret2
    exact ⟨by rw [HV.out] <;> rfl, HB2.out⟩

set_option maxRecDepth 100000 in
set_option maxHeartbeats 4000000 in
theorem sign_any (l : List Tk) (at_ : Int) (s : ByteArray) (v : Value) (w : World) (h : Tks w v l) (hl : Short l) :
    Calls Tryz.prog 39 #[v, .int .i64 at_, .string s] w fun e w' => e = .returned (.bool (signV l at_ s)) ∧ Below w.heap.size w w' := by
  have cw := wordAt_any l at_ v w h hl.1
  obtain ⟨ao, m, cap, rfl⟩ : ∃ ao m cap, v = .slice ao m cap := by
    rcases h.val with ⟨_, ao, cap, h⟩ | ⟨b, off, cap, h, _⟩
    · exact ⟨_, _, _, h⟩
    · exact ⟨_, _, _, h⟩
  unfold signV
  obtain ⟨k, a, tx, nm, htk⟩ : ∃ k a tx nm, tkV l at_ = ((k, a), tx, nm) := ⟨_, _, _, _, rfl⟩
  rw [htk] at cw ⊢
  have CW := hide cw
  unfold tkW tkA at CW
  clear cw h hl htk
  rcases eqk k 7 with ⟨h1, h1b⟩ | ⟨h1, h1b⟩
  · subst h1
    go_enter Tryz.func39, Tryz.ntmps39
    go_wp2_with fail
    refine Calls.mono CW.out ?_
    rintro e w1 ⟨rfl, hb1⟩
    have hT := TkAt.new w1 7 a tx nm
    have t0 := hT.c0
    have t2 := hT.c2
    have HB1 := hide (hb1.alloc hb1.size (.cells #[.int .i64 7, .int .i64 a, .string tx, .string nm] 43))
    clear hb1 CW hT
    go_wp2_with fail
    go_ret
    exact ⟨by simp, HB1.out⟩
  · have hd : decide (k = 7) = false := by simp [h1]
    rw [hd]
    go_enter Tryz.func39, Tryz.ntmps39
    go_wp2_with fail
    refine Calls.mono CW.out ?_
    rintro e w1 ⟨rfl, hb1⟩
    have hT := TkAt.new w1 k a tx nm
    have t0 := hT.c0
    have t2 := hT.c2
    have HB1 := hide (hb1.alloc hb1.size (.cells #[.int .i64 k, .int .i64 a, .string tx, .string nm] 43))
    clear hb1 CW hT h1 hd
    go_wp2_with fail
    go_ret
    exact ⟨by simp, HB1.out⟩

end Go.Proofs.YtbnfggnklhfimaaGreat

/- A whole number, read of words. -/
namespace Go.Proofs.YtbnfggnklhfimaaGreat
open Go.RowKit

/-- The whole number at a place, the place behind it, and the error. -/
def intV (l : List Tk) (at_ : Int) : Int × Int × Int :=
  if ¬ (tkV l at_).1.1 = 3 then (0, at_, 50) else if deeB (tkV l at_).2.2 = true then (0, at_, 50)
  else if (scalV (tkV l at_).2.2 1).2 = 0 then ((scalV (tkV l at_).2.2 1).1, at_ + 1, 0) else (0, at_, (scalV (tkV l at_).2.2 1).2)

set_option maxRecDepth 100000 in
set_option maxHeartbeats 4000000 in
theorem integer_any (l : List Tk) (at_ : Int) (v : Value) (w : World) (h : Tks w v l) (hl : Short l) :
    Calls Tryz.prog 43 #[v, .int .i64 at_] w fun e w' => e = .returned (.tuple #[.int .i64 (intV l at_).1, .int .i64 (intV l at_).2.1, .int .i64 (intV l at_).2.2]) ∧ Below w.heap.size w w' := by
  have cw := wordAt_any l at_ v w h hl.1
  have hsz := (hl.at at_).2
  have hll := hl.1
  have hiv : intV l at_ = if ¬ (tkV l at_).1.1 = 3 then (0, at_, 50) else if deeB (tkV l at_).2.2 = true then (0, at_, 50) else if (scalV (tkV l at_).2.2 1).2 = 0 then ((scalV (tkV l at_).2.2 1).1, at_ + 1, 0) else (0, at_, (scalV (tkV l at_).2.2 1).2) := rfl
  have hin : (tkV l at_).1.1 = 3 → 0 ≤ at_ ∧ at_ < l.length := fun h3 => tk_in (by rw [h3]; decide)
  obtain ⟨ao, m, cap, rfl⟩ : ∃ ao m cap, v = .slice ao m cap := by
    rcases h.val with ⟨_, ao, cap, h⟩ | ⟨b, off, cap, h, _⟩
    · exact ⟨_, _, _, h⟩
    · exact ⟨_, _, _, h⟩
  obtain ⟨k, a, tx, nm, htk⟩ : ∃ k a tx nm, tkV l at_ = ((k, a), tx, nm) := ⟨_, _, _, _, rfl⟩
  rw [htk] at cw hsz hiv hin
  simp only at hsz hiv hin
  have cd := fun w => containsDEE_any nm w hsz
  have cs := fun w => scaled_any nm 1 w (by omega)
  generalize deeB nm = D at *
  generalize (scalV nm 1).1 = n at *
  generalize (scalV nm 1).2 = er at *
  have CW := hide cw
  have CD := hide cd
  have CS := hide cs
  have HIV := hide hiv
  unfold tkW tkA at CW
  clear cw h hl htk hiv cd cs
  rcases eqk k 3 with ⟨h1, h1b⟩ | ⟨h1, h1b⟩
  · subst h1
    have hi := hin rfl
    have hi1 : at_ + 1 < 9223372036854775807 := by omega
    have hi0 : 0 ≤ at_ := hi.1
    clear hin hi
    go_enter Tryz.func43, Tryz.ntmps43
    go_wp2_with fail
    refine Calls.mono CW.out ?_
    rintro e w1 ⟨rfl, hb1⟩
    have hT := TkAt.new w1 3 a tx nm
    have t0 := hT.c0
    have t3 := hT.c3
    have HT := hide hT
    have HB1 := hide (hb1.alloc hb1.size (.cells #[.int .i64 3, .int .i64 a, .string tx, .string nm] 43))
    clear hb1 CW hT
    go_wp2_with fail
    refine Calls.mono (unhide CD _) ?_
    rintro e w2 ⟨rfl, hb2⟩
    have hT2 := (HT.out).below hb2 (HT.out).lt
    have u0 := hT2.c0
    have u3 := hT2.c3
    have HB2 := hide ((HB1.out).trans (hb2.mono (HB1.out).size))
    clear hb2 HB1 HT t0 t3 hT2 CD
    cases D
    · have hv := HIV.out
      rw [if_neg (by simp), if_neg (by simp)] at hv
      have HV := hide hv
      clear hv HIV
      go_wp2_with fail
      refine Calls.mono (unhide CS _) ?_
      rintro e w3 ⟨rfl, hb3⟩
      have HB3 := hide ((HB2.out).trans (hb3.mono (HB2.out).size))
      clear hb3 HB2 CS u0 u3
      rcases eqk er 0 with ⟨h0, h0b⟩ | ⟨h0, h0b⟩
      · subst h0
        have hv := HV.out
        rw [if_pos rfl] at hv
        have HV2 := hide hv
        clear hv HV h0b
        go_wp2_with fail
        go_ret3
        exact ⟨by rw [HV2.out] <;> rfl, HB3.out⟩
      · have hv := HV.out
        rw [if_neg h0] at hv
        have HV2 := hide hv
        have hn0 : (er != 0) = true := by rw [bne, h0b]; rfl
        clear hv HV h0b h0
        go_wp2_with fail
        go_ret3
        exact ⟨by rw [HV2.out] <;> rfl, HB3.out⟩
    · have hv := HIV.out
      rw [if_neg (by simp), if_pos rfl] at hv
      have HV := hide hv
      clear hv HIV
      go_wp2_with fail
      go_ret3
      exact ⟨by rw [HV.out] <;> rfl, HB2.out⟩
  · have hv := HIV.out
    rw [if_pos h1] at hv
    have HV := hide hv
    have hn1 : (k != 3) = true := by rw [bne, h1b]; rfl
    clear hv HIV hin h1 h1b CD CS
    go_enter Tryz.func43, Tryz.ntmps43
    go_wp2_with fail
    refine Calls.mono CW.out ?_
    rintro e w1 ⟨rfl, hb1⟩
    have hT := TkAt.new w1 k a tx nm
    have t0 := hT.c0
    have HB1 := hide (hb1.alloc hb1.size (.cells #[.int .i64 k, .int .i64 a, .string tx, .string nm] 43))
    clear hb1 CW hT
    go_wp2_with fail
    go_ret3
    exact ⟨by rw [HV.out] <;> rfl, HB1.out⟩

end Go.Proofs.YtbnfggnklhfimaaGreat

/- The document's own reading of words. -/
namespace Go.Proofs.YtbnfggnklhfimaaGreat
open Go.RowKit

set_option maxRecDepth 100000 in
set_option maxHeartbeats 4000000 in
theorem rword_any (l : List ((Int × Int) × ByteArray × ByteArray)) (at_ : Int) (v : Value) (w : World) (h : Tks w v l) (hl : l.length ≤ 1000000) :
    Calls Tryz.prog 35 #[v, .int .i64 at_] w fun e w' => e = .returned (tkW (tkV l at_)) ∧ Below w.heap.size w w' := by
  have hz := TkAt.new w 0 0 ⟨#[]⟩ ⟨#[]⟩
  have hb0 : Below w.heap.size w (w.alloc (.cells #[.int .i64 0, .int .i64 0, .string ⟨#[]⟩, .string ⟨#[]⟩] 43)) := (Below.refl _ w).alloc (Nat.le_refl _) _
  have z0 := hz.c0
  have z1 := hz.c1
  have z2 := hz.c2
  have z3 := hz.c3
  have zz := hz.z
  have HB := hide hb0
  by_cases hn : at_ < 0
  · have hv : tkV l at_ = ((8, 0), ⟨#[]⟩, ⟨#[]⟩) := by unfold tkV; rw [if_pos hn]
    rw [hv]
    obtain ⟨ao, n, cap, rfl⟩ : ∃ ao n cap, v = .slice ao n cap := by
      rcases h.val with ⟨_, ao, cap, h⟩ | ⟨b, off, cap, h, _⟩
      · exact ⟨_, _, _, h⟩
      · exact ⟨_, _, _, h⟩
    clear h hv hz hb0
    go_enter Tryz.func35, Tryz.ntmps35
    go_upto_region 1 with fail
    generalize w.alloc (.cells #[.int .i64 0, .int .i64 0, .string ⟨#[]⟩, .string ⟨#[]⟩] 43) = w3 at *
    go_wp2_with fail
    refine bodyPost_ret (v := tkW ((8, 0), ⟨#[]⟩, ⟨#[]⟩)) (by simp [results, Tryz.results35, go_sem, z0, z1, z2, z3, tkW, tkA]) rfl ⟨rfl, below_four HB.out (Nat.le_refl _) _ _ _ _⟩
  · obtain ⟨i, rfl⟩ := Int.eq_ofNat_of_zero_le (show 0 ≤ at_ by omega)
    by_cases hi : i < l.length
    · obtain ⟨x, hx⟩ : ∃ x, l[i]? = some x := ⟨_, List.getElem?_eq_getElem hi⟩
      have hv : tkV l (i : Int) = x := by unfold tkV; rw [if_neg hn]; simp [List.getD, hx]
      rw [hv]
      rcases h.val with ⟨rfl, _⟩ | ⟨b, off, cap, rfl, hlt, hc⟩
      · simp at hi
      obtain ⟨a0, a1, a2, a3⟩ := hc i x hx
      have e0 := (hb0.cell (p := ⟨b, _, none⟩) hlt).trans a0
      have e1 := (hb0.cell (p := ⟨b, _, none⟩) hlt).trans a1
      have e2 := (hb0.cell (p := ⟨b, _, none⟩) hlt).trans a2
      have e3 := (hb0.cell (p := ⟨b, _, none⟩) hlt).trans a3
      have hii : (i : Int) < (l.length : Int) := by omega
      have hne : ¬ b = w.heap.size := by omega
      generalize l.length = n at *
      clear h hv hz hb0 hc hx a0 a1 a2 a3
      go_enter Tryz.func35, Tryz.ntmps35
      go_upto_region 1 with fail
      generalize w.alloc (.cells #[.int .i64 0, .int .i64 0, .string ⟨#[]⟩, .string ⟨#[]⟩] 43) = w3 at *
      go_wp2_with fail
      refine bodyPost_ret (v := tkW x) (by simp [results, Tryz.results35, go_sem, z0, z1, z2, z3, tkW, tkA]) rfl ⟨rfl, below_four HB.out (Nat.le_refl _) _ _ _ _⟩
    · have hv : tkV l (i : Int) = ((8, 0), ⟨#[]⟩, ⟨#[]⟩) := by unfold tkV; rw [if_neg hn]; simp [List.getD, hi]
      rw [hv]
      obtain ⟨ao, cap, rfl⟩ : ∃ ao cap, v = .slice ao l.length cap := by
        rcases h.val with ⟨h0, ao, cap, h⟩ | ⟨b, off, cap, h, _⟩
        · exact ⟨_, _, by rw [h0]; exact h⟩
        · exact ⟨_, _, h⟩
      have hii : ¬ (i : Int) < (l.length : Int) := by omega
      generalize l.length = n at *
      clear h hv hz hb0
      go_enter Tryz.func35, Tryz.ntmps35
      go_upto_region 1 with fail
      generalize w.alloc (.cells #[.int .i64 0, .int .i64 0, .string ⟨#[]⟩, .string ⟨#[]⟩] 43) = w3 at *
      go_wp2_with fail
      refine bodyPost_ret (v := tkW ((8, 0), ⟨#[]⟩, ⟨#[]⟩)) (by simp [results, Tryz.results35, go_sem, z0, z1, z2, z3, tkW, tkA]) rfl ⟨rfl, below_four HB.out (Nat.le_refl _) _ _ _ _⟩

/-- A text is one of some. -/
theorem any_none {p : ByteArray → Bool} : ∀ {zs : List ByteArray}, (∀ i, i < zs.length → p (zs.getD i ByteArray.empty) = false) → zs.any p = false
  | [], _ => rfl
  | z :: r, h => by
    have h0 := h 0 (by simp)
    have ih := any_none (p := p) (zs := r) (fun i hi => by have := h (i + 1) (by simpa using hi); simpa using this)
    simp only [List.getD_cons_zero] at h0
    simp [h0, ih]

theorem any_hit {p : ByteArray → Bool} {zs : List ByteArray} {j : Nat} (hj : j < zs.length) (hp : p (zs.getD j ByteArray.empty) = true) : zs.any p = true := by
  rw [List.any_eq_true]
  refine ⟨zs.getD j ByteArray.empty, ?_, hp⟩
  rw [List.getD, List.getElem?_eq_getElem hj]
  exact List.getElem_mem hj

/-- The document's own way to tell a number that is 0. -/
def noughtL : List UInt8 → Bool
  | [] => true
  | c :: r => if c == 101 || c == 69 then true else if c == 43 || c == 45 || c == 46 || c == 48 then noughtL r else false

theorem noughtL_is : ∀ l : List UInt8, noughtL l = ((l.takeWhile fun c => !(c == 101 || c == 69)).all fun c => c == 43 || c == 45 || c == 46 || c == 48)
  | [] => rfl
  | c :: r => by
    have ih := noughtL_is r
    unfold noughtL
    cases h1 : (c == 101 || c == 69)
    · cases h2 : (c == 43 || c == 45 || c == 46 || c == 48)
      · rw [List.takeWhile_cons, h1]; simp [h2]
      · rw [List.takeWhile_cons, h1]; simp [h2, ih]
    · rw [List.takeWhile_cons, h1]; simp

theorem eq8 (c : UInt8) (n : Nat) (hn : n < 256) : (c == UInt8.ofNat n) = decide ((c.toNat : Int) = (n : Int)) := by
  rw [Bool.eq_iff_iff, beq_iff_eq, decide_eq_true_iff]
  constructor
  · intro h; subst h; simp; omega
  · intro h
    apply UInt8.toNat_inj.1
    simp
    omega

end Go.Proofs.YtbnfggnklhfimaaGreat

/- The document's own whole numbers, keywords and signs. -/
namespace Go.Proofs.YtbnfggnklhfimaaGreat
open Go.RowKit

set_option maxRecDepth 100000 in
set_option maxHeartbeats 4000000 in
theorem rsign5_any (l : List Tk) (at_ : Int) (s : ByteArray) (v : Value) (w : World) (h : Tks w v l) (hl : Short l) :
    Calls Tryz.prog 40 #[v, .int .i64 at_, .string s] w fun e w' => e = .returned (.bool (signV l at_ s)) ∧ Below w.heap.size w w' := by
  have cw := rword_any l at_ v w h hl.1
  obtain ⟨ao, m, cap, rfl⟩ : ∃ ao m cap, v = .slice ao m cap := by
    rcases h.val with ⟨_, ao, cap, h⟩ | ⟨b, off, cap, h, _⟩
    · exact ⟨_, _, _, h⟩
    · exact ⟨_, _, _, h⟩
  unfold signV
  obtain ⟨k, a, tx, nm, htk⟩ : ∃ k a tx nm, tkV l at_ = ((k, a), tx, nm) := ⟨_, _, _, _, rfl⟩
  rw [htk] at cw ⊢
  have CW := hide cw
  unfold tkW tkA at CW
  clear cw h hl htk
  rcases eqk k 7 with ⟨h1, h1b⟩ | ⟨h1, h1b⟩
  · subst h1
    go_enter Tryz.func40, Tryz.ntmps40
    go_wp2_with fail
    refine Calls.mono CW.out ?_
    rintro e w1 ⟨rfl, hb1⟩
    have hT := TkAt.new w1 7 a tx nm
    have t0 := hT.c0
    have t2 := hT.c2
    have HB1 := hide (hb1.alloc hb1.size (.cells #[.int .i64 7, .int .i64 a, .string tx, .string nm] 43))
    clear hb1 CW hT
    go_wp2_with fail
    go_ret
    exact ⟨by simp, HB1.out⟩
  · have hd : decide (k = 7) = false := by simp [h1]
    rw [hd]
    go_enter Tryz.func40, Tryz.ntmps40
    go_wp2_with fail
    refine Calls.mono CW.out ?_
    rintro e w1 ⟨rfl, hb1⟩
    have hT := TkAt.new w1 k a tx nm
    have t0 := hT.c0
    have t2 := hT.c2
    have HB1 := hide (hb1.alloc hb1.size (.cells #[.int .i64 k, .int .i64 a, .string tx, .string nm] 43))
    clear hb1 CW hT h1 hd
    go_wp2_with fail
    go_ret
    exact ⟨by simp, HB1.out⟩

/-- What the document's Keyword keeps. -/
structure KySt (w wr : World) (T b : Nat) (k at_ : Int) (tx nm : ByteArray) (zs : List ByteArray) : Prop where
  tk : TkAt T k at_ tx nm wr
  txs : TxAt wr b zs
  lt : b < wr.heap.size
  bel : Below w.heap.size w wr

theorem KySt.next {w w1 w2 : World} {T b : Nat} {k at_ : Int} {tx nm : ByteArray} {zs : List ByteArray} (h : KySt w w1 T b k at_ tx nm zs) (hb : Below w1.heap.size w1 w2) : KySt w w2 T b k at_ tx nm zs :=
  ⟨h.tk.below hb h.tk.lt, h.txs.below hb h.lt, Nat.lt_of_lt_of_le h.lt hb.size, h.bel.trans (hb.mono h.bel.size)⟩

theorem KySt.cell {w wr : World} {T b : Nat} {k at_ : Int} {tx nm : ByteArray} {zs : List ByteArray} (h : KySt w wr T b k at_ tx nm zs) (j : Nat) (hj : j < zs.length) : wr.cell? ⟨b, j, none⟩ = some (.string (zs.getD j ByteArray.empty)) := by
  have := h.txs j hj
  rwa [Nat.zero_add] at this

set_option maxRecDepth 100000 in
set_option maxHeartbeats 8000000 in
theorem rkeyword_any (l : List Tk) (at_ : Int) (zs : List ByteArray) (b n : Nat) (v : Value) (w : World) (h : Tks w v l) (hl : Short l) (ht : TxAt w b zs) (hlt : b < w.heap.size) (hn : n = zs.length) (hz : zs.length ≤ 1000) (hzs : ∀ j, j < zs.length → (zs.getD j ByteArray.empty).size ≤ 140737488351232) :
    Calls Tryz.prog 18 #[v, .int .i64 at_, .slice (some ⟨b, 0, none⟩) n n] w fun e w' => e = .returned (.tuple #[.int .i64 (keywV l at_ zs).1, .int .i64 (keywV l at_ zs).2]) ∧ Below w.heap.size w w' := by
  subst hn
  have cw := rword_any l at_ v w h hl.1
  have hsz := (hl.at at_).1
  have hkv : keywV l at_ zs = if idxP (kwP l at_) zs < 0 then (-1, at_) else (idxP (kwP l at_) zs, at_ + 1) := rfl
  have hin : ¬ idxP (kwP l at_) zs < 0 → 0 ≤ at_ ∧ at_ < l.length := fun h0 => tk_in (fun h8 => h0 (by
    rw [idxP_false zs (fun z => by unfold kwP; rw [h8]; rfl)]; decide))
  have hll := hl.1
  obtain ⟨ao, m, cap, rfl⟩ : ∃ ao m cap, v = .slice ao m cap := by
    rcases h.val with ⟨_, ao, cap, h⟩ | ⟨b, off, cap, h, _⟩
    · exact ⟨_, _, _, h⟩
    · exact ⟨_, _, _, h⟩
  obtain ⟨k, ax, tx, nm, htk⟩ : ∃ k ax tx nm, tkV l at_ = ((k, ax), tx, nm) := ⟨_, _, _, _, rfl⟩
  have hp : kwP l at_ = fun z => decide (k = 1) && isB tx z := by funext z; unfold kwP; rw [htk]
  rw [htk] at cw hsz
  have ci : ∀ (j : Nat) (w' : World), j < zs.length → Calls Tryz.prog 36 #[.string tx, .string (zs.getD j ByteArray.empty)] w' fun e w'' => e = .returned (.bool (isB tx (zs.getD j ByteArray.empty))) ∧ Below w'.heap.size w' w'' := fun j w' hj => ris4_big tx _ w' (Nat.le_trans hsz (by decide)) (hzs j hj)
  have hpk : ∀ z, kwP l at_ z = (decide (k = 1) && isB tx z) := fun z => by rw [hp]
  generalize kwP l at_ = P at *
  have CW := hide cw
  have CI := hide ci
  have HKV := hide hkv
  have HIN := hide hin
  have HPK := hide hpk
  have HT := hide ht
  unfold tkW tkA at CW
  clear cw ci hkv hin h ht hl htk hp hsz hzs hpk
  go_enter Tryz.func18, Tryz.ntmps18
  go_wp2_with fail
  refine Calls.mono CW.out ?_
  rintro e w1 ⟨rfl, hb1⟩
  have hq := (Below.refl _ w1).alloc (Nat.le_refl _) (.cells #[.int .i64 k, .int .i64 ax, .string tx, .string nm] 43)
  have hB := hb1.trans (hq.mono hb1.size)
  have ST0 : Hid (KySt w (w1.alloc (.cells #[.int .i64 k, .int .i64 ax, .string tx, .string nm] 43)) w1.heap.size b k ax tx nm zs) := hide ⟨TkAt.new w1 k ax tx nm, (HT.out).below hB hlt, Nat.lt_of_lt_of_le hlt hB.size, hB⟩
  clear hb1 hq hB CW HT
  go_upto_region 2 with fail
  generalize w1.alloc (.cells #[.int .i64 k, .int .i64 ax, .string tx, .string nm] 43) = w2 at *
  generalize w1.heap.size = T at *
  go_wp2_with fail
  go_loopw [9] (fun i wr => ∃ j : Nat, j ≤ zs.length ∧ i = .int .i64 (j : Int) ∧ Hid (∀ i, i < j → P (zs.getD i ByteArray.empty) = false) ∧ Hid (KySt w wr T b k ax tx nm zs)) (fun i _ => ((zs.length : Int) - intOf i).toNat)
  case atStart => exact ⟨0, Nat.zero_le _, by go_num, hide (fun i hi => absurd hi (by omega)), ST0⟩
  case round =>
    clear ST0
    obtain ⟨j, hj, rfl, HN, ST⟩ := hrel
    by_cases hlk : j < zs.length
    · have hi : (j : Int) < (zs.length : Int) := by omega
      have hcell := (ST.out).cell j hlk
      have t0 := (ST.out).tk.c0
      have t2 := (ST.out).tk.c2
      have STd : Hid (KySt w wr.drew T b k ax tx nm zs) := hide ((ST.out).next (Below.refl _ wr).drew)
      have dcell := (STd.out).cell j hlk
      have d0 := (STd.out).tk.c0
      have d2 := (STd.out).tk.c2
      have hpz := HPK.out (zs.getD j ByteArray.empty)
      have hiv : (0 : Int) ≤ (j : Int) := by omega
      rcases eqk k 1 with ⟨h1, h1b⟩ | ⟨h1, h1b⟩
      · subst h1
        have cc : ∀ w', KySt w w' T b 1 ax tx nm zs → Calls Tryz.prog 36 #[.string tx, .string (zs.getD j ByteArray.empty)] w' fun e w'' => e = .returned (.bool (isB tx (zs.getD j ByteArray.empty))) ∧ KySt w w'' T b 1 ax tx nm zs := fun w' h => (unhide CI j w' hlk).mono fun _ _ hh => ⟨hh.1, h.next hh.2⟩
        have hpz2 : P (zs.getD j ByteArray.empty) = isB tx (zs.getD j ByteArray.empty) := by rw [hpz]; simp
        have HCL : Hid (∀ w', KySt w w' T b 1 ax tx nm zs → w'.cell? ⟨b, j, none⟩ = some (.string (zs.getD j ByteArray.empty))) := hide (fun w' h => h.cell j hlk)
        cases hq : isB tx (zs.getD j ByteArray.empty)
        · rw [hq] at cc hpz2
          have HN2 : Hid (∀ i, i < j + 1 → P (zs.getD i ByteArray.empty) = false) := hide (fun i hi => by
            rcases Nat.lt_or_ge i j with h | h
            · exact (HN.out) i h
            · obtain rfl : i = j := by omega
              exact hpz2)
          generalize zs.getD j ByteArray.empty = z at *
          have CC := hide cc
          clear cc hpz hpz2 hq HN CI HKV HIN HPK h1b
          go_upto_region 5 with fail
          clear ST hcell t0 t2
          go_region_held3 (fun w' => w'.cell? ⟨T, 0, none⟩ = some (.int .i64 1) ∧ w'.cell? ⟨T, 2, none⟩ = some (.string tx) ∧ w'.cell? ⟨b, j, none⟩ = some (.string z) ∧ Hid (KySt w w' T b 1 ax tx nm zs))
            (first | exact ⟨by assumption, by assumption, by assumption, by assumption⟩ | go_keep)
            (first
              | (go_at_call 36; refine (unhide CC _ (by assumption : Hid (KySt w _ T b 1 ax tx nm zs)).out).mono ?_; rintro e w' ⟨rfl, hq⟩; have hq0 := hq.tk.c0; have hq2 := hq.tk.c2; have hqz := (HCL.out) _ hq; have HQ := hide hq; clear hq))
          go_wp2_with fail
          go_round
          case rel => exact ⟨j + 1, by omega, by go_num, HN2, by assumption⟩
          case measure => simp [intOf]; omega
        · rw [hq] at cc hpz2
          have HV := hide (idxP_hit HN.out hlk hpz2)
          generalize zs.getD j ByteArray.empty = z at *
          have hkv2 := HKV.out
          rw [HV.out, if_neg (by omega)] at hkv2
          have hi2 := (HIN.out) (by rw [HV.out]; omega)
          have hi3 : at_ + 1 < 9223372036854775807 := by omega
          have hi0 : 0 ≤ at_ := hi2.1
          have HKV2 := hide hkv2
          have CC := hide cc
          clear cc hpz hpz2 hq HN CI HKV HIN HPK h1b hi2 hkv2
          go_upto_region 5 with fail
          clear ST hcell t0 t2
          go_region_held3 (fun w' => w'.cell? ⟨T, 0, none⟩ = some (.int .i64 1) ∧ w'.cell? ⟨T, 2, none⟩ = some (.string tx) ∧ w'.cell? ⟨b, j, none⟩ = some (.string z) ∧ Hid (KySt w w' T b 1 ax tx nm zs))
            (first | exact ⟨by assumption, by assumption, by assumption, by assumption⟩ | go_keep)
            (first
              | (go_at_call 36; refine (unhide CC _ (by assumption : Hid (KySt w _ T b 1 ax tx nm zs)).out).mono ?_; rintro e w' ⟨rfl, hq⟩; have hq0 := hq.tk.c0; have hq2 := hq.tk.c2; have hqz := (HCL.out) _ hq; have HQ := hide hq; clear hq))
          go_wp2_with fail
          go_ret2
          exact ⟨by rw [HKV2.out] <;> rfl, (by assumption : Hid (KySt w _ T b 1 ax tx nm zs)).out.bel⟩
      · have hd : decide (k = 1) = false := by simp [h1]
        rw [hd, Bool.false_and] at hpz
        have HN2 : Hid (∀ i, i < j + 1 → P (zs.getD i ByteArray.empty) = false) := hide (fun i hi => by
          rcases Nat.lt_or_ge i j with h | h
          · exact (HN.out) i h
          · obtain rfl : i = j := by omega
            exact hpz)
        clear hpz HN CI HKV HIN HPK h1 hd
        go_upto_region 5 with fail
        go_quiet (fail)
        go_wp2_with fail
        go_round
        case rel => exact ⟨j + 1, by omega, by go_num, HN2, hide ((ST.out).next (drw _ _ _))⟩
        case measure => simp [intOf]; omega
    · have hi : ¬ (j : Int) < (zs.length : Int) := by omega
      obtain rfl : j = zs.length := by omega
      have hkv := HKV.out
      rw [idxP_none HN.out, if_pos (by decide)] at hkv
      have HV := hide hkv
      clear hkv HKV HN HIN
      go_wp2_with fail
      go_ret2
      exact ⟨by rw [HV.out] <;> rfl, (ST.out).bel⟩

theorem not_dee {c : UInt8} (h0 : ¬ (c.toNat : Int) = 46) (h1 : ¬ (c.toNat : Int) = 101) (h2 : ¬ (c.toNat : Int) = 69) : [(46 : UInt8), 101, 69].contains c = false := by
  have e0 : (c == 46) = false := by rw [beq_eq_false_iff_ne]; intro e; rw [e] at h0; exact h0 rfl
  have e1 : (c == 101) = false := by rw [beq_eq_false_iff_ne]; intro e; rw [e] at h1; exact h1 rfl
  have e2 : (c == 69) = false := by rw [beq_eq_false_iff_ne]; intro e; rw [e] at h2; exact h2 rfl
  simp [List.contains, List.elem, e0, e1, e2]

theorem is_dee {c : UInt8} (h : (c.toNat : Int) = 46 ∨ (c.toNat : Int) = 101 ∨ (c.toNat : Int) = 69) : [(46 : UInt8), 101, 69].contains c = true := by
  have : c = 46 ∨ c = 101 ∨ c = 69 := by
    rcases h with h | h | h
    · exact .inl (UInt8.toNat_inj.1 (by simp; omega))
    · exact .inr (.inl (UInt8.toNat_inj.1 (by simp; omega)))
    · exact .inr (.inr (UInt8.toNat_inj.1 (by simp; omega)))
  rcases this with rfl | rfl | rfl <;> decide

theorem dee_hit {s : ByteArray} {k : Nat} (hk : k < s.size) (hn : Lib.NoAny s.data.toList [46, 101, 69] k) (h : (s[k].toNat : Int) = 46 ∨ (s[k].toNat : Int) = 101 ∨ (s[k].toNat : Int) = 69) : deeB s = true := by
  unfold deeB
  rw [Lib.indexAny_hit hn (Lib.data_getElem? s k hk) (is_dee h)]
  simp

theorem dee_none {s : ByteArray} (hn : Lib.NoAny s.data.toList [46, 101, 69] s.size) : deeB s = false := by
  unfold deeB
  rw [Lib.indexAny_none (fun j b hj hb => hn j b (by simp at hj; omega) hb)]
  decide

set_option maxRecDepth 100000 in
set_option maxHeartbeats 8000000 in
theorem rinteger_any (l : List Tk) (at_ : Int) (v : Value) (w : World) (h : Tks w v l) (hl : Short l) (hnm : (tkV l at_).2.2.size ≤ 2000) :
    Calls Tryz.prog 20 #[v, .int .i64 at_] w fun e w' => e = .returned (.tuple #[.int .i64 (intV l at_).1, .int .i64 (intV l at_).2.1, .int .i64 (intV l at_).2.2]) ∧ Below w.heap.size w w' := by
  have cw := rword_any l at_ v w h hl.1
  have hll := hl.1
  have hiv : intV l at_ = if ¬ (tkV l at_).1.1 = 3 then (0, at_, 50) else if deeB (tkV l at_).2.2 = true then (0, at_, 50) else if (scalV (tkV l at_).2.2 1).2 = 0 then ((scalV (tkV l at_).2.2 1).1, at_ + 1, 0) else (0, at_, (scalV (tkV l at_).2.2 1).2) := rfl
  have hin : (tkV l at_).1.1 = 3 → 0 ≤ at_ ∧ at_ < l.length := fun h3 => tk_in (by rw [h3]; decide)
  obtain ⟨ao, m, cap, rfl⟩ : ∃ ao m cap, v = .slice ao m cap := by
    rcases h.val with ⟨_, ao, cap, h⟩ | ⟨b, off, cap, h, _⟩
    · exact ⟨_, _, _, h⟩
    · exact ⟨_, _, _, h⟩
  obtain ⟨k, ax, tx, nm, htk⟩ : ∃ k ax tx nm, tkV l at_ = ((k, ax), tx, nm) := ⟨_, _, _, _, rfl⟩
  rw [htk] at cw hiv hin hnm
  simp only at hiv hin hnm
  have cs := fun w => rvalue_any nm 1 w hnm
  have hsc : scalV nm 1 = if (valueV nm 1).2 = 0 ∨ (valueV nm 1).2 = 10 then valueV nm 1 else (0, 50) := rfl
  generalize intV l at_ = IV at *
  generalize scalV nm 1 = SV at *
  obtain ⟨n, er, hval⟩ : ∃ n er, valueV nm 1 = (n, er) := ⟨_, _, rfl⟩
  rw [hval] at cs hsc
  simp only at cs hsc
  have CW := hide cw
  have CS := hide cs
  have HIV := hide hiv
  have HSC := hide hsc
  unfold tkW tkA at CW
  clear cw h hl htk hiv cs hval hsc
  rcases eqk k 3 with ⟨h1, h1b⟩ | ⟨h1, h1b⟩
  · subst h1
    have hi := hin rfl
    have hi1 : at_ + 1 < 9223372036854775807 := by omega
    have hi0 : 0 ≤ at_ := hi.1
    clear hin hi
    go_enter Tryz.func20, Tryz.ntmps20
    go_wp2_with fail
    refine Calls.mono CW.out ?_
    rintro e w1 ⟨rfl, hb1⟩
    have HT := hide (TkAt.new w1 3 ax tx nm)
    have HB := hide (hb1.alloc hb1.size (.cells #[.int .i64 3, .int .i64 ax, .string tx, .string nm] 43))
    clear hb1 CW
    go_upto_region 2 with fail
    generalize w1.alloc (.cells #[.int .i64 3, .int .i64 ax, .string tx, .string nm] 43) = w2 at *
    generalize w1.heap.size = T at *
    have t0 := (HT.out).c0
    have t3 := (HT.out).c3
    go_wp2_with fail
    go_loopw [8] (fun i wr => ∃ j : Nat, j ≤ nm.size ∧ i = .int .i64 (j : Int) ∧ Hid (Lib.NoAny nm.data.toList [46, 101, 69] j) ∧ w2 = wr) (fun i _ => ((nm.size : Int) - intOf i).toNat)
    case atStart => exact ⟨0, Nat.zero_le _, by go_num, hide (Lib.NoAny.zero _ _), rfl⟩
    case round =>
      obtain ⟨j, hj, rfl, HN, rfl⟩ := hrel
      by_cases hlk : j < nm.size
      · have hi : (j : Int) < (nm.size : Int) := by omega
        rcases eqb (nm[j].toNat : Int) 46 with ⟨g0, g0b⟩ | ⟨g0, g0b⟩
        · have hv := HIV.out
          rw [if_neg (by simp), if_pos (dee_hit hlk HN.out (.inl g0))] at hv
          have HV := hide hv
          clear hv HIV HN CS HSC
          go_wp2_with fail
          go_ret3
          exact ⟨by rw [HV.out] <;> rfl, HB.out⟩
        · rcases eqb (nm[j].toNat : Int) 101 with ⟨g1, g1b⟩ | ⟨g1, g1b⟩
          · have hv := HIV.out
            rw [if_neg (by simp), if_pos (dee_hit hlk HN.out (.inr (.inl g1)))] at hv
            have HV := hide hv
            clear hv HIV HN CS HSC
            go_wp2_with fail
            go_ret3
            exact ⟨by rw [HV.out] <;> rfl, HB.out⟩
          · rcases eqb (nm[j].toNat : Int) 69 with ⟨g2, g2b⟩ | ⟨g2, g2b⟩
            · have hv := HIV.out
              rw [if_neg (by simp), if_pos (dee_hit hlk HN.out (.inr (.inr g2)))] at hv
              have HV := hide hv
              clear hv HIV HN CS HSC
              go_wp2_with fail
              go_ret3
              exact ⟨by rw [HV.out] <;> rfl, HB.out⟩
            · have HN2 := hide ((HN.out).succ (Lib.data_getElem? nm j hlk) (not_dee g0 g1 g2))
              clear HN
              go_wp2_with fail
              go_round
              case rel => exact ⟨j + 1, by omega, by go_num, HN2, trivial⟩
              case measure => simp [intOf]; omega
      · have hi : ¬ (j : Int) < (nm.size : Int) := by omega
        obtain rfl : j = nm.size := by omega
        have hiv := HIV.out
        rw [if_neg (by simp), if_neg (by rw [dee_none HN.out]; simp)] at hiv
        clear HN HIV
        go_wp2_with fail
        refine Calls.mono (unhide CS _) ?_
        rintro e w3 ⟨rfl, hb3⟩
        have HB3 := hide ((HB.out).trans (hb3.mono (HB.out).size))
        clear hb3 HB CS t0 t3 HT
        have hsc := HSC.out
        rcases eqk er 10 with ⟨g1, g1b⟩ | ⟨g1, g1b⟩
        · subst g1
          rw [if_pos (.inr rfl)] at hsc
          rw [hsc, if_neg (by simp)] at hiv
          have HV := hide hiv
          clear hiv hsc HSC g1b
          go_wp2_with fail
          go_ret3
          exact ⟨by rw [HV.out] <;> rfl, HB3.out⟩
        · rcases eqk er 0 with ⟨g2, g2b⟩ | ⟨g2, g2b⟩
          · subst g2
            rw [if_pos (.inl rfl)] at hsc
            rw [hsc, if_pos rfl] at hiv
            have HV := hide hiv
            clear hiv hsc HSC g2b
            go_wp2_with fail
            go_ret3
            exact ⟨by rw [HV.out] <;> rfl, HB3.out⟩
          · rw [if_neg (by omega)] at hsc
            rw [hsc, if_neg (by decide)] at hiv
            have HV := hide hiv
            have gn : (er != 0) = true := by rw [bne, g2b]; rfl
            clear hiv hsc HSC
            go_wp2_with fail
            go_ret3
            exact ⟨by rw [HV.out] <;> rfl, HB3.out⟩
  · have hv := HIV.out
    rw [if_pos h1] at hv
    have HV := hide hv
    have hn1 : (k != 3) = true := by rw [bne, h1b]; rfl
    clear hv HIV hin h1 h1b CS HSC
    go_enter Tryz.func20, Tryz.ntmps20
    go_wp2_with fail
    refine Calls.mono CW.out ?_
    rintro e w1 ⟨rfl, hb1⟩
    have hT := TkAt.new w1 k ax tx nm
    have t0 := hT.c0
    have HB1 := hide (hb1.alloc hb1.size (.cells #[.int .i64 k, .int .i64 ax, .string tx, .string nm] 43))
    clear hb1 CW hT
    go_wp2_with fail
    go_ret3
    exact ⟨by rw [HV.out] <;> rfl, HB1.out⟩

end Go.Proofs.YtbnfggnklhfimaaGreat

/- Lines: what is read of words. -/
namespace Go.Proofs.YtbnfggnklhfimaaGreat
open Go.RowKit

/-- A line: its kind, its number, its name. -/
abbrev LnD := (Int × Int) × ByteArray

def lnA (x : LnD) : Value := .agg #[.int .i64 x.1.1, .int .i64 x.1.2, .string x.2]

def noLn : LnD := ((0, 0), ⟨#[]⟩)

/-- A line in a box. -/
def LnAt (w : World) (b : Nat) (x : LnD) : Prop := w.heap[b]? = some (.cells #[.int .i64 x.1.1, .int .i64 x.1.2, .string x.2] 26 (0, 0))

theorem LnAt.lt {w : World} {b : Nat} {x : LnD} (h : LnAt w b x) : b < w.heap.size := (Array.getElem?_eq_some_iff.1 h).1

theorem LnAt.c0 {w : World} {b : Nat} {x : LnD} (h : LnAt w b x) : w.cell? ⟨b, 0, none⟩ = some (.int .i64 x.1.1) := by simp [World.cell?, show w.heap[b]? = _ from h]

theorem LnAt.c1 {w : World} {b : Nat} {x : LnD} (h : LnAt w b x) : w.cell? ⟨b, 1, none⟩ = some (.int .i64 x.1.2) := by simp [World.cell?, show w.heap[b]? = _ from h]

theorem LnAt.c2 {w : World} {b : Nat} {x : LnD} (h : LnAt w b x) : w.cell? ⟨b, 2, none⟩ = some (.string x.2) := by simp [World.cell?, show w.heap[b]? = _ from h]

theorem LnAt.z {w : World} {b : Nat} {x : LnD} (h : LnAt w b x) (i : Nat) : w.frozen? ⟨b, i, none⟩ = false := Lib.frozen_of_heap h i

theorem LnAt.below {w w' : World} {B b : Nat} {x : LnD} (h : LnAt w b x) (hb : Below B w w') (hB : b < B) : LnAt w' b x := (hb.block b hB).trans h

theorem LnAt.new (w : World) (k n : Int) (s : ByteArray) : LnAt (w.alloc (.cells #[.int .i64 k, .int .i64 n, .string s] 26)) w.heap.size ((k, n), s) := heap_alloc_new w _

theorem below_three {B b : Nat} {w w' : World} (h : Below B w w') (hb : B ≤ b) (x y z : Value) : Below B w (((w'.setCell ⟨b, 0, none⟩ x).setCell ⟨b, 1, none⟩ y).setCell ⟨b, 2, none⟩ z) := ((h.setCell (p := ⟨b, 0, none⟩) hb x).setCell (p := ⟨b, 1, none⟩) hb y).setCell (p := ⟨b, 2, none⟩) hb z

def spanB : ByteArray := ⟨#[115, 112, 97, 110]⟩

/-- What a word is for a line: 1 a number, 2 a name, 3 span, 0 nothing. -/
def kindL (l : List Tk) (i : Int) : Int :=
  if (tkV l i).1.1 = 1 then if isB (tkV l i).2.1 spanB = true then 3 else if customV (tkV l i).2.1 = true then 2 else 0
  else if (intV l i).2.2 = 0 ∨ (intV l i).2.2 = 10 then 1 else 0

theorem int_err (l : List Tk) (i : Int) : (intV l i).2.2 = 0 ∨ (intV l i).2.2 = 10 → (tkV l i).1.1 = 3 := by
  unfold intV
  split
  · intro h; simp at h
  · rename_i h
    intro _
    omega

theorem kindL_in {l : List Tk} {i : Int} (h : ¬ kindL l i = 0) : 0 ≤ i ∧ i < l.length := by
  refine tk_in (fun h8 => h ?_)
  unfold kindL
  rw [if_neg (by rw [h8]; decide), if_neg (fun hh => by have := int_err l i hh; rw [h8] at this; exact absurd this (by decide))]

/-- The words that belong to a line: where the number, the name and span stand (-1: nowhere), and the place behind them. -/
def scanL (l : List Tk) (at_ : Int) : Nat → Int → Int → Int → Int → Int × Int × Int × Int
  | 0, nu, na, sp, k => (nu, na, sp, k)
  | f + 1, nu, na, sp, k =>
    if kindL l k = 1 ∧ nu < 0 then scanL l at_ f k na sp (k + 1)
    else if kindL l k = 2 ∧ na < 0 then scanL l at_ f nu k sp (k + 1)
    else if kindL l k = 3 ∧ sp < 0 then if at_ < k then (nu, na, k, k + 1) else scanL l at_ f nu na k (k + 1)
    else (nu, na, sp, k)

def nameOf (l : List Tk) (na : Int) : ByteArray := if 0 ≤ na then (tkV l na).2.1 else ⟨#[]⟩

/-- The line that such words are. -/
def lineOf (l : List Tk) (at_ : Int) (r : Int × Int × Int × Int) : LnD × Int × Int :=
  if r.2.2.2 = at_ then (noLn, at_, 50)
  else if 0 ≤ r.1 then
    if ¬ (intV l r.1).2.2 = 0 ∨ 10000 < (intV l r.1).1 ∨ (intV l r.1).1 < -10000 then (noLn, r.1, 52)
    else if (intV l r.1).1 = 0 ∨ ((intV l r.1).1 < 0 ∧ 0 ≤ r.2.2.1) then (noLn, r.1, 50)
    else if 0 ≤ r.2.2.1 then (((4, (intV l r.1).1), nameOf l r.2.1), r.2.2.2, 0) else (((2, (intV l r.1).1), nameOf l r.2.1), r.2.2.2, 0)
  else if 0 ≤ r.2.2.1 then if r.2.1 < 0 then (noLn, r.2.2.2, 50) else (((4, 1), nameOf l r.2.1), r.2.2.2, 0)
  else (((3, 0), nameOf l r.2.1), r.2.2.2, 0)

def autoK : List ByteArray := [⟨#[97, 117, 116, 111]⟩]

def wideK : List ByteArray := [⟨#[105, 110, 104, 101, 114, 105, 116]⟩, ⟨#[105, 110, 105, 116, 105, 97, 108]⟩, ⟨#[117, 110, 115, 101, 116]⟩, ⟨#[114, 101, 118, 101, 114, 116]⟩]

/-- A line read, the place behind it, and the error. -/
def lineR (l : List Tk) (at_ : Int) : LnD × Int × Int :=
  if 0 ≤ (keywV l at_ autoK).1 then (((1, 0), ⟨#[]⟩), at_ + 1, 0)
  else if 0 ≤ (keywV l at_ wideK).1 then (noLn, at_, 51)
  else lineOf l at_ (scanL l at_ 4 (-1) (-1) (-1) at_)

def lineE (r : LnD × Int × Int) : Value := .tuple #[lnA r.1, .int .i64 r.2.1, .int .i64 r.2.2]

theorem keyw_pair (l : List Tk) (i : Int) (zs : List ByteArray) : (0 ≤ (keywV l i zs).1 ∧ (keywV l i zs).2 = i + 1 ∧ 0 ≤ i ∧ i < l.length) ∨ ((keywV l i zs).1 = -1 ∧ (keywV l i zs).2 = i) := by
  unfold keywV
  by_cases h : idxP (kwP l i) zs < 0
  · rw [if_pos h]; exact .inr ⟨rfl, rfl⟩
  · rw [if_neg h]
    have hi : 0 ≤ i ∧ i < l.length := tk_in (fun h8 => h (by rw [idxP_false zs (fun z => by unfold kwP; rw [h8]; rfl)]; decide))
    exact .inl ⟨by simpa using h, rfl, hi.1, hi.2⟩

/-- What Pair tells of a line without a second one. -/
def otherL (x : LnD) : LnD := if x.1.1 = 3 then x else ((1, 0), ⟨#[]⟩)

/-- Lines with / between, at most so many. -/
def linesR (l : List Tk) : Nat → Int → Except (Int × Int) (List LnD × Int)
  | 0, i => .ok ([], i)
  | f + 1, i =>
    if (lineR l i).2.2 = 0 then
      if f = 0 ∨ signV l (lineR l i).2.1 ⟨#[47]⟩ = false then .ok ([(lineR l i).1], (lineR l i).2.1)
      else match linesR l f ((lineR l i).2.1 + 1) with
        | .error e => .error e
        | .ok (xs, j) => .ok ((lineR l i).1 :: xs, j)
    else .error ((lineR l i).2.1, (lineR l i).2.2)

def pairR (l : List Tk) (i : Int) : (LnD × LnD) × Int × Int :=
  match linesR l 2 i with
  | .error (a, e) => ((noLn, noLn), a, e)
  | .ok (xs, j) => match xs with
    | [x, y] => ((x, y), j, 0)
    | x :: _ => ((x, otherL x), j, 0)
    | [] => ((noLn, noLn), j, 0)

/-- What is left out of four lines. -/
def fillL : List LnD → LnD × LnD × LnD × LnD
  | [a] => (a, otherL a, otherL a, otherL (otherL a))
  | [a, b] => (a, b, otherL a, otherL b)
  | [a, b, c] => (a, b, c, otherL b)
  | a :: b :: c :: d :: _ => (a, b, c, d)
  | [] => (noLn, noLn, noLn, noLn)

def fourR (l : List Tk) (i : Int) : (LnD × LnD × LnD × LnD) × Int × Int :=
  match linesR l 4 i with
  | .error (a, e) => ((noLn, noLn, noLn, noLn), a, e)
  | .ok (xs, j) => (fillL xs, j, 0)

/-- A line may be. -/
def goodLn (x : LnD) : Bool :=
  if x.1.1 = 1 then decide (x.1.2 = 0) && decide (x.2.size = 0)
  else if x.1.1 = 2 then decide (¬ x.1.2 = 0) && decide (-10000 ≤ x.1.2) && decide (x.1.2 ≤ 10000) && (decide (x.2.size = 0) || customV x.2)
  else if x.1.1 = 3 then decide (x.1.2 = 0) && customV x.2
  else if x.1.1 = 4 then decide (1 ≤ x.1.2) && decide (x.1.2 ≤ 10000) && (decide (x.2.size = 0) || customV x.2)
  else false

end Go.Proofs.YtbnfggnklhfimaaGreat

/- What a word is for a line, by the document's own way. -/
namespace Go.Proofs.YtbnfggnklhfimaaGreat
open Go.RowKit

theorem low_span : lowV spanB = spanB := by kernel_rfl

set_option maxRecDepth 100000 in
set_option maxHeartbeats 4000000 in
theorem rkind7_any (l : List Tk) (i : Int) (v : Value) (w : World) (h : Tks w v l) (hl : Short l) (hnm : (tkV l i).2.2.size ≤ 2000) :
    Calls Tryz.prog 19 #[v, .int .i64 i] w fun e w' => e = .returned (.int .i64 (kindL l i)) ∧ Below w.heap.size w w' := by
  have cw := rword_any l i v w h hl.1
  have hsz := (hl.at i).1
  have cn := fun (w' : World) (hb : Below w.heap.size w w') => rinteger_any l i v w' (h.below hb) hl hnm
  have hkl : kindL l i = if (tkV l i).1.1 = 1 then if isB (tkV l i).2.1 spanB = true then 3 else if customV (tkV l i).2.1 = true then 2 else 0 else if (intV l i).2.2 = 0 ∨ (intV l i).2.2 = 10 then 1 else 0 := rfl
  obtain ⟨ao, m, cap, rfl⟩ : ∃ ao m cap, v = .slice ao m cap := by
    rcases h.val with ⟨_, ao, cap, h⟩ | ⟨b, off, cap, h, _⟩
    · exact ⟨_, _, _, h⟩
    · exact ⟨_, _, _, h⟩
  obtain ⟨k, ax, tx, nm, htk⟩ : ∃ k ax tx nm, tkV l i = ((k, ax), tx, nm) := ⟨_, _, _, _, rfl⟩
  rw [htk] at cw hsz hkl
  simp only at hsz hkl
  have ci := fun w => ris4_any tx spanB w hsz (by decide)
  have cc := fun w => rcustom_any tx w hsz
  have CI : Hid (∀ w, Calls Tryz.prog 36 #[.string tx, .string ⟨#[115, 112, 97, 110]⟩] w fun e w' => e = .returned (.bool (isB tx spanB)) ∧ Below w.heap.size w w') := hide ci
  have CC := hide cc
  have CW := hide cw
  have CN := hide cn
  have HKL := hide hkl
  unfold tkW tkA at CW
  generalize kindL l i = KL at *
  generalize isB tx spanB = IB at *
  generalize customV tx = CB at *
  obtain ⟨i1, i2, i3, hint⟩ : ∃ i1 i2 i3, intV l i = (i1, i2, i3) := ⟨_, _, _, rfl⟩
  rw [hint] at CN HKL
  clear ci cc cw cn hkl h hl htk hsz hnm hint
  rcases eqk k 1 with ⟨h1, h1b⟩ | ⟨h1, h1b⟩
  · subst h1
    have hv := HKL.out
    rw [if_pos rfl] at hv
    clear HKL CN h1b
    cases IB
    · rw [if_neg (by simp)] at hv
      cases CB <;> (
        simp at hv
        have HV := hide hv
        clear hv
        go_enter Tryz.func19, Tryz.ntmps19
        go_wp2_with fail
        refine Calls.mono CW.out ?_
        rintro e w1 ⟨rfl, hb1⟩
        have hT := TkAt.new w1 1 ax tx nm
        have t0 := hT.c0
        have t2 := hT.c2
        have HT := hide hT
        have HB1 := hide (hb1.alloc hb1.size (.cells #[.int .i64 1, .int .i64 ax, .string tx, .string nm] 43))
        clear hb1 CW hT
        go_wp2_with fail
        refine Calls.mono (unhide CI _) ?_
        rintro e w2 ⟨rfl, hb2⟩
        have u2 := ((HT.out).below hb2 (HT.out).lt).c2
        have HB2 := hide ((HB1.out).trans (hb2.mono (HB1.out).size))
        clear hb2 HB1 CI t0 t2
        go_wp2_with fail
        refine Calls.mono (unhide CC _) ?_
        rintro e w3 ⟨rfl, hb3⟩
        have HB3 := hide ((HB2.out).trans (hb3.mono (HB2.out).size))
        clear hb3 HB2 CC u2
        go_wp2_with fail
        go_ret
        exact ⟨by rw [HV.out] <;> rfl, HB3.out⟩)
    · rw [if_pos rfl] at hv
      have HV := hide hv
      clear hv
      go_enter Tryz.func19, Tryz.ntmps19
      go_wp2_with fail
      refine Calls.mono CW.out ?_
      rintro e w1 ⟨rfl, hb1⟩
      have hT := TkAt.new w1 1 ax tx nm
      have t0 := hT.c0
      have t2 := hT.c2
      have HB1 := hide (hb1.alloc hb1.size (.cells #[.int .i64 1, .int .i64 ax, .string tx, .string nm] 43))
      clear hb1 CW hT
      go_wp2_with fail
      refine Calls.mono (unhide CI _) ?_
      rintro e w2 ⟨rfl, hb2⟩
      have HB2 := hide ((HB1.out).trans (hb2.mono (HB1.out).size))
      clear hb2 HB1 CI t0 t2
      go_wp2_with fail
      go_ret
      exact ⟨by rw [HV.out] <;> rfl, HB2.out⟩
  · have hv := HKL.out
    rw [if_neg h1] at hv
    simp only at hv
    clear HKL CI CC
    rcases eqk i3 0 with ⟨g0, g0b⟩ | ⟨g0, g0b⟩
    · subst g0
      rw [if_pos (.inl rfl)] at hv
      have HV := hide hv
      clear hv h1 g0b
      go_enter Tryz.func19, Tryz.ntmps19
      go_wp2_with fail
      refine Calls.mono CW.out ?_
      rintro e w1 ⟨rfl, hb1⟩
      have hT := TkAt.new w1 k ax tx nm
      have t0 := hT.c0
      have HB1 := hide (hb1.alloc hb1.size (.cells #[.int .i64 k, .int .i64 ax, .string tx, .string nm] 43))
      clear hb1 CW hT
      go_wp2_with fail
      refine Calls.mono (unhide CN _ HB1.out) ?_
      rintro e w2 ⟨rfl, hb2⟩
      have HB2 := hide ((HB1.out).trans (hb2.mono (HB1.out).size))
      clear hb2 HB1 CN t0
      go_wp2_with fail
      go_ret
      exact ⟨by rw [HV.out] <;> rfl, HB2.out⟩
    · rcases eqk i3 10 with ⟨g1, g1b⟩ | ⟨g1, g1b⟩
      · subst g1
        rw [if_pos (.inr rfl)] at hv
        have HV := hide hv
        clear hv h1 g1b g0 g0b
        go_enter Tryz.func19, Tryz.ntmps19
        go_wp2_with fail
        refine Calls.mono CW.out ?_
        rintro e w1 ⟨rfl, hb1⟩
        have hT := TkAt.new w1 k ax tx nm
        have t0 := hT.c0
        have HB1 := hide (hb1.alloc hb1.size (.cells #[.int .i64 k, .int .i64 ax, .string tx, .string nm] 43))
        clear hb1 CW hT
        go_wp2_with fail
        refine Calls.mono (unhide CN _ HB1.out) ?_
        rintro e w2 ⟨rfl, hb2⟩
        have HB2 := hide ((HB1.out).trans (hb2.mono (HB1.out).size))
        clear hb2 HB1 CN t0
        go_wp2_with fail
        go_ret
        exact ⟨by rw [HV.out] <;> rfl, HB2.out⟩
      · rw [if_neg (by omega)] at hv
        have HV := hide hv
        clear hv h1 g0 g1
        go_enter Tryz.func19, Tryz.ntmps19
        go_wp2_with fail
        refine Calls.mono CW.out ?_
        rintro e w1 ⟨rfl, hb1⟩
        have hT := TkAt.new w1 k ax tx nm
        have t0 := hT.c0
        have HB1 := hide (hb1.alloc hb1.size (.cells #[.int .i64 k, .int .i64 ax, .string tx, .string nm] 43))
        clear hb1 CW hT
        go_wp2_with fail
        refine Calls.mono (unhide CN _ HB1.out) ?_
        rintro e w2 ⟨rfl, hb2⟩
        have HB2 := hide ((HB1.out).trans (hb2.mono (HB1.out).size))
        clear hb2 HB1 CN t0
        go_wp2_with fail
        go_ret
        exact ⟨by rw [HV.out] <;> rfl, HB2.out⟩

end Go.Proofs.YtbnfggnklhfimaaGreat

/- A line, read by the document's own way. -/
namespace Go.Proofs.YtbnfggnklhfimaaGreat
open Go.RowKit

/-- What the document's Read of lines keeps. -/
structure LnSt (w wr : World) (v : Value) (l : List Tk) : Prop where
  tks : Tks wr v l
  z : LnAt wr w.heap.size noLn
  no : LnAt wr (w.heap.size + 1) noLn
  bel : Below w.heap.size w wr

theorem LnSt.next {w w1 w2 : World} {v : Value} {l : List Tk} (h : LnSt w w1 v l) (hb : Below w1.heap.size w1 w2) : LnSt w w2 v l :=
  ⟨h.tks.below hb, h.z.below hb h.z.lt, h.no.below hb h.no.lt, h.bel.trans (hb.mono h.bel.size)⟩

theorem LnSt.new (w : World) (v : Value) (l : List Tk) (h : Tks w v l) : LnSt w ((w.alloc (.cells #[.int .i64 0, .int .i64 0, .string ⟨#[]⟩] 26)).alloc (.cells #[.int .i64 0, .int .i64 0, .string ⟨#[]⟩] 26)) v l := by
  have hb := (Below.refl _ w).alloc (Nat.le_refl _) (.cells #[.int .i64 0, .int .i64 0, .string ⟨#[]⟩] 26)
  have h1 := LnAt.new w 0 0 ⟨#[]⟩
  have hb2 := (Below.refl _ (w.alloc (.cells #[.int .i64 0, .int .i64 0, .string ⟨#[]⟩] 26))).alloc (Nat.le_refl _) (.cells #[.int .i64 0, .int .i64 0, .string ⟨#[]⟩] 26)
  have h2 := LnAt.new (w.alloc (.cells #[.int .i64 0, .int .i64 0, .string ⟨#[]⟩] 26)) 0 0 ⟨#[]⟩
  have hB := hb.trans (hb2.mono hb.size)
  refine ⟨h.below hB, h1.below hb2 h1.lt, ?_, hB⟩
  simpa [noLn] using h2

def cntL (nu na sp : Int) : Nat := (if nu < 0 then 1 else 0) + (if na < 0 then 1 else 0) + (if sp < 0 then 1 else 0)

/-- Where the loop over the words stands. -/
structure ScanInv (l : List Tk) (at_ : Int) (R : Int × Int × Int × Int) (f : Nat) (nu na sp k : Int) : Prop where
  eq : R = scanL l at_ f nu na sp k
  fuel : cntL nu na sp < f
  k0 : k = at_ ∨ (at_ < k ∧ 0 ≤ at_ ∧ k ≤ l.length)
  nu0 : nu = -1 ∨ (0 ≤ nu ∧ nu < l.length)
  na0 : na = -1 ∨ (0 ≤ na ∧ na < l.length)
  sp0 : sp = -1 ∨ (0 ≤ sp ∧ sp < l.length)

/-- Where it ends. -/
structure ScanEnd (l : List Tk) (at_ : Int) (R : Int × Int × Int × Int) (nu na sp k : Int) : Prop where
  eq : R = (nu, na, sp, k)
  k0 : k = at_ ∨ (at_ < k ∧ 0 ≤ at_ ∧ k ≤ l.length)
  nu0 : nu = -1 ∨ (0 ≤ nu ∧ nu < l.length)
  na0 : na = -1 ∨ (0 ≤ na ∧ na < l.length)

theorem ScanInv.num {l : List Tk} {at_ : Int} {R : Int × Int × Int × Int} {f : Nat} {nu na sp k : Int} (h : ScanInv l at_ R (f + 1) nu na sp k) (h1 : kindL l k = 1) (h2 : nu < 0) : ScanInv l at_ R f k na sp (k + 1) := by
  have hk := kindL_in (l := l) (i := k) (by rw [h1]; decide)
  have h0 := h.k0
  refine ⟨?_, ?_, .inr ⟨by omega, by omega, by omega⟩, .inr hk, h.na0, h.sp0⟩
  · rw [h.eq, scanL, if_pos ⟨h1, h2⟩]
  · have := h.fuel
    unfold cntL at this ⊢
    rw [if_pos h2] at this
    rw [if_neg (by omega)]
    omega

theorem ScanInv.nam {l : List Tk} {at_ : Int} {R : Int × Int × Int × Int} {f : Nat} {nu na sp k : Int} (h : ScanInv l at_ R (f + 1) nu na sp k) (h1 : kindL l k = 2) (h2 : na < 0) : ScanInv l at_ R f nu k sp (k + 1) := by
  have hk := kindL_in (l := l) (i := k) (by rw [h1]; decide)
  have h0 := h.k0
  refine ⟨?_, ?_, .inr ⟨by omega, by omega, by omega⟩, h.nu0, .inr hk, h.sp0⟩
  · rw [h.eq, scanL, if_neg (by rw [h1]; omega), if_pos ⟨h1, h2⟩]
  · have := h.fuel
    unfold cntL at this ⊢
    rw [if_pos h2] at this
    rw [if_neg (show ¬ k < 0 by omega)]
    omega

theorem ScanInv.spn {l : List Tk} {at_ : Int} {R : Int × Int × Int × Int} {f : Nat} {nu na sp k : Int} (h : ScanInv l at_ R (f + 1) nu na sp k) (h1 : kindL l k = 3) (h2 : sp < 0) (h3 : ¬ at_ < k) : ScanInv l at_ R f nu na k (k + 1) := by
  have hk := kindL_in (l := l) (i := k) (by rw [h1]; decide)
  have h0 := h.k0
  refine ⟨?_, ?_, .inr ⟨by omega, by omega, by omega⟩, h.nu0, h.na0, .inr hk⟩
  · rw [h.eq, scanL, if_neg (by rw [h1]; omega), if_neg (by rw [h1]; omega), if_pos ⟨h1, h2⟩, if_neg h3]
  · have := h.fuel
    unfold cntL at this ⊢
    rw [if_pos h2] at this
    rw [if_neg (show ¬ k < 0 by omega)]
    omega

theorem ScanInv.brk {l : List Tk} {at_ : Int} {R : Int × Int × Int × Int} {f : Nat} {nu na sp k : Int} (h : ScanInv l at_ R (f + 1) nu na sp k) (h1 : kindL l k = 3) (h2 : sp < 0) (h3 : at_ < k) : ScanEnd l at_ R nu na k (k + 1) := by
  have hk := kindL_in (l := l) (i := k) (by rw [h1]; decide)
  have h0 := h.k0
  refine ⟨?_, .inr ⟨by omega, by omega, by omega⟩, h.nu0, h.na0⟩
  rw [h.eq, scanL, if_neg (by rw [h1]; omega), if_neg (by rw [h1]; omega), if_pos ⟨h1, h2⟩, if_pos h3]

theorem ScanInv.stop {l : List Tk} {at_ : Int} {R : Int × Int × Int × Int} {f : Nat} {nu na sp k : Int} (h : ScanInv l at_ R (f + 1) nu na sp k) (h1 : ¬ (kindL l k = 1 ∧ nu < 0)) (h2 : ¬ (kindL l k = 2 ∧ na < 0)) (h3 : ¬ (kindL l k = 3 ∧ sp < 0)) : ScanEnd l at_ R nu na sp k :=
  ⟨by rw [h.eq, scanL, if_neg h1, if_neg h2, if_neg h3], h.k0, h.nu0, h.na0⟩

theorem kindL_four (l : List Tk) (i : Int) : kindL l i = 0 ∨ kindL l i = 1 ∨ kindL l i = 2 ∨ kindL l i = 3 := by
  unfold kindL
  repeat' split
  all_goals simp

theorem LnAt.set0 {w : World} {b : Nat} {x : LnD} (h : LnAt w b x) (m : Int) : LnAt (w.setCell ⟨b, 0, none⟩ (.int .i64 m)) b ((m, x.1.2), x.2) := cell_put (i := 0) (.int .i64 m) h

theorem LnAt.set1 {w : World} {b : Nat} {x : LnD} (h : LnAt w b x) (m : Int) : LnAt (w.setCell ⟨b, 1, none⟩ (.int .i64 m)) b ((x.1.1, m), x.2) := cell_put (i := 1) (.int .i64 m) h

theorem LnAt.set2 {w : World} {b : Nat} {x : LnD} (h : LnAt w b x) (s : ByteArray) : LnAt (w.setCell ⟨b, 2, none⟩ (.string s)) b (x.1, s) := cell_put (i := 2) (.string s) h

theorem LnSt.put {w w1 : World} {v : Value} {l : List Tk} {V : Nat} (h : LnSt w w1 v l) (hV : w.heap.size + 1 < V) (hT : ∀ b, (∃ off n cap, v = .slice (some ⟨b, off, none⟩) n cap) → b < V) (i : Nat) (y : Value) : LnSt w (w1.setCell ⟨V, i, none⟩ y) v l := by
  have hs := (Below.refl V w1).setCell (p := ⟨V, i, none⟩) (Nat.le_refl _) y
  refine ⟨⟨?_⟩, h.z.below hs (by omega), h.no.below hs (by omega), h.bel.setCell (p := ⟨V, i, none⟩) (by show w.heap.size ≤ V; omega) _⟩
  rcases h.tks.val with h | ⟨b, off, cap, hv, hlt, hc⟩
  · exact .inl h
  · refine .inr ⟨b, off, cap, hv, by simpa using hlt, fun j x hx => ?_⟩
    have hb := hT b ⟨off, _, cap, hv⟩
    obtain ⟨a0, a1, a2, a3⟩ := hc j x hx
    exact ⟨(hs.cell (p := ⟨b, _, none⟩) hb).trans a0, (hs.cell (p := ⟨b, _, none⟩) hb).trans a1, (hs.cell (p := ⟨b, _, none⟩) hb).trans a2, (hs.cell (p := ⟨b, _, none⟩) hb).trans a3⟩

set_option maxRecDepth 100000 in
set_option maxHeartbeats 16000000 in
theorem rread7_any (l : List Tk) (at_ : Int) (v : Value) (w : World) (h : Tks w v l) (hl : Short l) (hnm : ∀ i, (tkV l i).2.2.size ≤ 2000) :
    Calls Tryz.prog 7 #[v, .int .i64 at_] w fun e w' => e = .returned (lineE (lineR l at_)) ∧ Below w.heap.size w w' := by
  have ST0 := hide (LnSt.new w v l h)
  have hlr : lineR l at_ = if 0 ≤ (keywV l at_ autoK).1 then (((1, 0), ⟨#[]⟩), at_ + 1, 0) else if 0 ≤ (keywV l at_ wideK).1 then (noLn, at_, 51) else lineOf l at_ (scanL l at_ 4 (-1) (-1) (-1) at_) := rfl
  have ck : ∀ zs b n w', LnSt w w' v l → TxAt w' b zs → b < w'.heap.size → n = zs.length → zs.length ≤ 1000 → (∀ j, j < zs.length → (zs.getD j ByteArray.empty).size ≤ 140737488351232) → Calls Tryz.prog 18 #[v, .int .i64 at_, .slice (some ⟨b, 0, none⟩) n n] w' fun e w'' => e = .returned (.tuple #[.int .i64 (keywV l at_ zs).1, .int .i64 (keywV l at_ zs).2]) ∧ Below w'.heap.size w' w'' :=
    fun zs b n w' hs ht hb hn hz hzs => rkeyword_any l at_ zs b n v w' hs.tks hl ht hb hn hz hzs
  have ckd := fun i w' (hs : LnSt w w' v l) => rkind7_any l i v w' hs.tks hl (hnm i)
  have cin := fun i w' (hs : LnSt w w' v l) => rinteger_any l i v w' hs.tks hl (hnm i)
  have hT : ∀ b, (∃ off n cap, v = .slice (some ⟨b, off, none⟩) n cap) → l ≠ [] → b < w.heap.size := fun b ⟨off, n, cap, hv⟩ hne => by
    rcases h.val with ⟨h0, _⟩ | ⟨b', off', cap', hv', hlt, _⟩
    · exact absurd h0 hne
    · rw [hv] at hv'
      simp at hv'
      rw [hv'.1.1]
      exact hlt
  obtain ⟨ao, cap, rfl⟩ : ∃ ao cap, v = .slice ao l.length cap := by
    rcases h.val with ⟨h0, ao, cap, h⟩ | ⟨b, off, cap, h, _⟩
    · exact ⟨ao, cap, by rw [h0]; exact h⟩
    · exact ⟨_, _, h⟩
  have hll := hl.1
  have hka := keyw_pair l at_ autoK
  have hkw := keyw_pair l at_ wideK
  have hso : ∀ z ∈ autoK, z.size ≤ 140737488351232 := by decide +kernel
  have hsw : ∀ z ∈ wideK, z.size ≤ 140737488351232 := by decide +kernel
  have cka := fun b w' hs ht hb => ck autoK b 1 w' hs ht hb rfl (by decide) (fun j hj => by rw [List.getD, List.getElem?_eq_getElem hj]; exact hso _ (List.getElem_mem hj))
  have ckw := fun b w' hs ht hb => ck wideK b 4 w' hs ht hb rfl (by decide) (fun j hj => by rw [List.getD, List.getElem?_eq_getElem hj]; exact hsw _ (List.getElem_mem hj))
  generalize keywV l at_ autoK = KA at *
  generalize keywV l at_ wideK = KW4 at *
  obtain ⟨a1, a2⟩ := KA
  obtain ⟨b1, b2⟩ := KW4
  simp only at hka hkw hlr
  generalize lineR l at_ = LR at *
  have CKA := hide cka
  have CKW := hide ckw
  have CKD := hide ckd
  have CIN := hide cin
  have HLR := hide hlr
  have HT := hide hT
  clear ck cka ckw ckd cin hlr h hl hnm hso hsw hT
  go_enter Tryz.func7, Tryz.ntmps7
  go_upto_region 2 with fail
  generalize ((w.alloc (.cells #[.int .i64 0, .int .i64 0, .string ⟨#[]⟩] 26)).alloc (.cells #[.int .i64 0, .int .i64 0, .string ⟨#[]⟩] 26)) = w0 at *
  have hq := (Below.refl _ w0).alloc (Nat.le_refl _) (.cells (autoK.map Value.string).toArray 9)
  have ST1 := hide ((ST0.out).next hq)
  have c1 := unhide CKA w0.heap.size _ ST1.out (txAt_new w0 9 autoK) (by simp)
  have C1 : Hid (Calls Tryz.prog 18 #[.slice ao l.length cap, .int .i64 at_, .slice (some ⟨w0.heap.size, 0, none⟩) 1 1] (w0.alloc (.cells #[.string ⟨#[97, 117, 116, 111]⟩] 9)) fun e w'' => e = .returned (.tuple #[.int .i64 a1, .int .i64 a2]) ∧ Below (w0.alloc (.cells #[.string ⟨#[97, 117, 116, 111]⟩] 9)).heap.size (w0.alloc (.cells #[.string ⟨#[97, 117, 116, 111]⟩] 9)) w'') := hide c1
  change Hid (LnSt w (w0.alloc (.cells #[.string ⟨#[97, 117, 116, 111]⟩] 9)) _ _) at ST1
  clear hq c1 CKA ST0
  go_wp2_with fail
  refine Calls.mono C1.out ?_
  rintro e w1 ⟨rfl, hb⟩
  have ST := hide ((ST1.out).next hb)
  clear hb ST1 C1
  rcases hka with ⟨ha, ha2, hi0, hi1⟩ | ⟨ha, ha2⟩
  · obtain rfl : at_ + 1 = a2 := ha2.symm
    have hv := HLR.out
    rw [if_pos ha] at hv
    have HV := hide hv
    have hgt : at_ < at_ + 1 := by omega
    have hov : at_ + 1 < 9223372036854775807 := by omega
    clear hv HLR CKW CKD CIN
    have z0 := (ST.out).z.c0
    have z1 := (ST.out).z.c1
    have z2 := (ST.out).z.c2
    have zz := (ST.out).z.z
    have n0 := (ST.out).no.c0
    have n1 := (ST.out).no.c1
    have n2 := (ST.out).no.c2
    have hn01 : ¬ w.heap.size = w.heap.size + 1 := by omega
    have hn10 : ¬ w.heap.size + 1 = w.heap.size := by omega
    simp only [noLn] at z0 z1 z2 n0 n1 n2
    go_wp2_with fail
    refine bodyPost_ret (v := lineE LR) (by rw [HV.out]; simp [results, Tryz.results7, go_sem, z0, z1, z2, lineE, lnA]) rfl ⟨rfl, below_three (ST.out).bel (Nat.le_refl _) _ _ _⟩
  · obtain rfl : -1 = a1 := ha.symm
    obtain rfl : at_ = a2 := ha2.symm
    have hlr := HLR.out
    rw [if_neg (by decide)] at hlr
    have HLR2 := hide hlr
    clear hlr HLR
    go_upto_region 5 with fail
    have hq := (Below.refl _ w1).alloc (Nat.le_refl _) (.cells (wideK.map Value.string).toArray 9)
    have ST2 := hide ((ST.out).next hq)
    have c1 := unhide CKW w1.heap.size _ ST2.out (txAt_new w1 9 wideK) (by simp)
    have C1 : Hid (Calls Tryz.prog 18 #[.slice ao l.length cap, .int .i64 at_, .slice (some ⟨w1.heap.size, 0, none⟩) 4 4] (w1.alloc (.cells #[.string ⟨#[105, 110, 104, 101, 114, 105, 116]⟩, .string ⟨#[105, 110, 105, 116, 105, 97, 108]⟩, .string ⟨#[117, 110, 115, 101, 116]⟩, .string ⟨#[114, 101, 118, 101, 114, 116]⟩] 9)) fun e w'' => e = .returned (.tuple #[.int .i64 b1, .int .i64 b2]) ∧ Below (w1.alloc (.cells #[.string ⟨#[105, 110, 104, 101, 114, 105, 116]⟩, .string ⟨#[105, 110, 105, 116, 105, 97, 108]⟩, .string ⟨#[117, 110, 115, 101, 116]⟩, .string ⟨#[114, 101, 118, 101, 114, 116]⟩] 9)).heap.size (w1.alloc (.cells #[.string ⟨#[105, 110, 104, 101, 114, 105, 116]⟩, .string ⟨#[105, 110, 105, 116, 105, 97, 108]⟩, .string ⟨#[117, 110, 115, 101, 116]⟩, .string ⟨#[114, 101, 118, 101, 114, 116]⟩] 9)) w'') := hide c1
    change Hid (LnSt w (w1.alloc (.cells #[.string ⟨#[105, 110, 104, 101, 114, 105, 116]⟩, .string ⟨#[105, 110, 105, 116, 105, 97, 108]⟩, .string ⟨#[117, 110, 115, 101, 116]⟩, .string ⟨#[114, 101, 118, 101, 114, 116]⟩] 9)) _ _) at ST2
    clear hq c1 CKW ST
    go_wp2_with fail
    refine Calls.mono C1.out ?_
    rintro e w2 ⟨rfl, hb⟩
    have ST := hide ((ST2.out).next hb)
    clear hb ST2 C1
    rcases hkw with ⟨hb0, hb2, hi0, hi1⟩ | ⟨hb0, hb2⟩
    · obtain rfl : at_ + 1 = b2 := hb2.symm
      have hv := HLR2.out
      rw [if_pos hb0] at hv
      have HV := hide hv
      clear hv HLR2 CKD CIN
      have z0 := (ST.out).z.c0
      have z1 := (ST.out).z.c1
      have z2 := (ST.out).z.c2
      have zz := (ST.out).z.z
      have n0 := (ST.out).no.c0
      have n1 := (ST.out).no.c1
      have n2 := (ST.out).no.c2
      have hn01 : ¬ w.heap.size = w.heap.size + 1 := by omega
      have hn10 : ¬ w.heap.size + 1 = w.heap.size := by omega
      simp only [noLn] at z0 z1 z2 n0 n1 n2
      go_wp2_with fail
      refine bodyPost_ret (v := lineE LR) (by rw [HV.out]; simp [results, Tryz.results7, go_sem, z0, z1, z2, lineE, lnA, noLn]) rfl ⟨rfl, below_three (ST.out).bel (Nat.le_refl _) _ _ _⟩
    · obtain rfl : -1 = b1 := hb0.symm
      obtain rfl : at_ = b2 := hb2.symm
      have hlr := HLR2.out
      rw [if_neg (by decide)] at hlr
      have HLR3 := hide hlr
      clear hlr HLR2
      have SI : Hid (ScanInv l at_ (scanL l at_ 4 (-1) (-1) (-1) at_) 4 (-1) (-1) (-1) at_) := hide ⟨rfl, by decide, .inl rfl, .inl rfl, .inl rfl, .inl rfl⟩
      generalize scanL l at_ 4 (-1) (-1) (-1) at_ = R at *
      go_upto_block 0 with fail
      go_cut [12, 13, 14, 15, 16] (fun a b c d _ wx => ∃ nu na sp k : Int, a = .int .i64 nu ∧ b = .int .i64 na ∧ c = .int .i64 sp ∧ d = .int .i64 k ∧ Hid (ScanEnd l at_ R nu na sp k) ∧ Hid (LnSt w wx (.slice ao l.length cap) l))
      case first =>
        clear CIN HLR3
        go_wp2_with fail
        go_loopg [12, 13, 14, 15, 16] 4 (fun f a b c d _ wx => ∃ nu na sp k : Int, a = .int .i64 nu ∧ b = .int .i64 na ∧ c = .int .i64 sp ∧ d = .int .i64 k ∧ Hid (ScanInv l at_ R f nu na sp k) ∧ Hid (LnSt w wx (.slice ao l.length cap) l))
        case atStart => exact ⟨-1, -1, -1, at_, rfl, rfl, rfl, rfl, SI, ST⟩
        case round =>
          clear SI ST
          obtain ⟨nu, na, sp, k, rfl, rfl, rfl, rfl, SI, ST⟩ := hrel
          have ck := unhide CKD k _ ST.out
          have hk4 := kindL_four l k
          cases gk with
          | zero => exact absurd (SI.out).fuel (by omega)
          | succ g =>
            have hstop := fun h1 h2 h3 => (SI.out).stop h1 h2 h3
            have hnum := fun h1 h2 => (SI.out).num h1 h2
            have hnam := fun h1 h2 => (SI.out).nam h1 h2
            have hspn := fun h1 h2 h3 => (SI.out).spn h1 h2 h3
            have hbrk := fun h1 h2 h3 => (SI.out).brk h1 h2 h3
            have hki : ¬ kindL l k = 0 → 0 ≤ k ∧ k < l.length := kindL_in
            generalize kindL l k = q at *
            have HSTOP := hide hstop
            have HNUM := hide hnum
            have HNAM := hide hnam
            have HSPN := hide hspn
            have HBRK := hide hbrk
            have HKI := hide hki
            have CK := hide ck
            clear hstop hnum hnam hspn hbrk hki ck SI
            rcases hk4 with rfl | rfl | rfl | rfl
            · have HE := hide ((HSTOP.out) (by omega) (by omega) (by omega))
              clear HSTOP HNUM HNAM HSPN HBRK HKI
              go_wp2_with fail
              refine Calls.mono CK.out ?_
              rintro e w3 ⟨rfl, hb⟩
              have ST3 := hide ((ST.out).next hb)
              clear hb ST CK
              go_wp2_with fail
              go_meet
              case rel => exact ⟨nu, na, sp, k, rfl, rfl, rfl, rfl, HE, ST3⟩
            · by_cases hnu : nu < 0
              · have SI2 := hide ((HNUM.out) rfl hnu)
                have hi := (HKI.out) (by decide)
                have hov : k + 1 < 9223372036854775807 := by omega
                have hi0 : 0 ≤ k := hi.1
                clear HSTOP HNUM HNAM HSPN HBRK HKI hi
                go_wp2_with fail
                refine Calls.mono CK.out ?_
                rintro e w3 ⟨rfl, hb⟩
                have ST3 := hide ((ST.out).next hb)
                clear hb ST CK
                go_wp2_with fail
                go_roundg g
                case measure => omega
                case rel => exact ⟨k, na, sp, k + 1, rfl, rfl, rfl, rfl, SI2, ST3⟩
              · have HE := hide ((HSTOP.out) (by omega) (by omega) (by omega))
                clear HSTOP HNUM HNAM HSPN HBRK HKI
                go_wp2_with fail
                refine Calls.mono CK.out ?_
                rintro e w3 ⟨rfl, hb⟩
                have ST3 := hide ((ST.out).next hb)
                clear hb ST CK
                go_wp2_with fail
                go_meet
                case rel => exact ⟨nu, na, sp, k, rfl, rfl, rfl, rfl, HE, ST3⟩
            · by_cases hna : na < 0
              · have SI2 := hide ((HNAM.out) rfl hna)
                have hi := (HKI.out) (by decide)
                have hov : k + 1 < 9223372036854775807 := by omega
                have hi0 : 0 ≤ k := hi.1
                clear HSTOP HNUM HNAM HSPN HBRK HKI hi
                go_wp2_with fail
                refine Calls.mono CK.out ?_
                rintro e w3 ⟨rfl, hb⟩
                have ST3 := hide ((ST.out).next hb)
                clear hb ST CK
                go_wp2_with fail
                go_roundg g
                case measure => omega
                case rel => exact ⟨nu, k, sp, k + 1, rfl, rfl, rfl, rfl, SI2, ST3⟩
              · have HE := hide ((HSTOP.out) (by omega) (by omega) (by omega))
                clear HSTOP HNUM HNAM HSPN HBRK HKI
                go_wp2_with fail
                refine Calls.mono CK.out ?_
                rintro e w3 ⟨rfl, hb⟩
                have ST3 := hide ((ST.out).next hb)
                clear hb ST CK
                go_wp2_with fail
                go_meet
                case rel => exact ⟨nu, na, sp, k, rfl, rfl, rfl, rfl, HE, ST3⟩
            · by_cases hsp : sp < 0
              · by_cases hak : at_ < k
                · have HE := hide ((HBRK.out) rfl hsp hak)
                  have hi := (HKI.out) (by decide)
                  have hov : k + 1 < 9223372036854775807 := by omega
                  have hi0 : 0 ≤ k := hi.1
                  clear HSTOP HNUM HNAM HSPN HBRK HKI hi
                  go_wp2_with fail
                  refine Calls.mono CK.out ?_
                  rintro e w3 ⟨rfl, hb⟩
                  have ST3 := hide ((ST.out).next hb)
                  clear hb ST CK
                  go_wp2_with fail
                  go_meet
                  case rel => exact ⟨nu, na, k, k + 1, rfl, rfl, rfl, rfl, HE, ST3⟩
                · have SI2 := hide ((HSPN.out) rfl hsp hak)
                  have hi := (HKI.out) (by decide)
                  have hov : k + 1 < 9223372036854775807 := by omega
                  have hi0 : 0 ≤ k := hi.1
                  clear HSTOP HNUM HNAM HSPN HBRK HKI hi
                  go_wp2_with fail
                  refine Calls.mono CK.out ?_
                  rintro e w3 ⟨rfl, hb⟩
                  have ST3 := hide ((ST.out).next hb)
                  clear hb ST CK
                  go_wp2_with fail
                  go_roundg g
                  case measure => omega
                  case rel => exact ⟨nu, na, k, k + 1, rfl, rfl, rfl, rfl, SI2, ST3⟩
              · have HE := hide ((HSTOP.out) (by omega) (by omega) (by omega))
                clear HSTOP HNUM HNAM HSPN HBRK HKI
                go_wp2_with fail
                refine Calls.mono CK.out ?_
                rintro e w3 ⟨rfl, hb⟩
                have ST3 := hide ((ST.out).next hb)
                clear hb ST CK
                go_wp2_with fail
                go_meet
                case rel => exact ⟨nu, na, sp, k, rfl, rfl, rfl, rfl, HE, ST3⟩
      case rest =>
        obtain ⟨nu, na, sp, k, rfl, rfl, rfl, rfl, HE, ST⟩ := hcut
        clear CKD
        have hlr := HLR3.out
        rw [(HE.out).eq] at hlr
        unfold lineOf at hlr
        simp only at hlr
        have hlt := (ST.out).no.lt
        have hn01 : ¬ w.heap.size = w.heap.size + 1 := by omega
        have hn10 : ¬ w.heap.size + 1 = w.heap.size := by omega
        rcases eqk k at_ with ⟨hk, hkb⟩ | ⟨hk, hkb⟩
        · obtain rfl : at_ = k := hk.symm
          rw [if_pos rfl] at hlr
          have HV := hide hlr
          clear hlr HLR3 HE CIN hkb
          have z0 := (ST.out).z.c0
          have z1 := (ST.out).z.c1
          have z2 := (ST.out).z.c2
          have zz := (ST.out).z.z
          have n0 := (ST.out).no.c0
          have n1 := (ST.out).no.c1
          have n2 := (ST.out).no.c2
          simp only [noLn] at z0 z1 z2 n0 n1 n2
          go_wp2_with fail
          refine bodyPost_ret (v := lineE LR) (by rw [HV.out]; simp [results, Tryz.results7, go_sem, z0, z1, z2, lineE, lnA, noLn]) rfl ⟨rfl, below_three (ST.out).bel (Nat.le_refl _) _ _ _⟩
        · rw [if_neg hk] at hlr
          have HLR4 := hide hlr
          clear hlr HLR3
          go_upto_region 24 with fail
          have hq := (Below.refl _ wc).alloc (Nat.le_refl _) (.cells #[.int .i64 3, .int .i64 0, .string ⟨#[]⟩] 26)
          have ST2 := hide ((ST.out).next hq)
          have LV2 := hide (LnAt.new wc 3 0 ⟨#[]⟩)
          clear hq ST
          generalize wc.alloc (.cells #[.int .i64 3, .int .i64 0, .string ⟨#[]⟩] 26) = w5 at *
          generalize wc.heap.size = V at *
          have hnv0 : ¬ w.heap.size = V := by omega
          have hnv1 : ¬ V = w.heap.size := by omega
          have hnv2 : ¬ w.heap.size + 1 = V := by omega
          have hnv3 : ¬ V = w.heap.size + 1 := by omega
          have hVle : w.heap.size ≤ V := by omega
          rcases (HE.out).na0 with hna | ⟨hna0, hna1⟩
          · obtain rfl : -1 = na := hna.symm
            have hlr := HLR4.out
            rw [show nameOf l (-1) = (⟨#[]⟩ : ByteArray) from rfl] at hlr
            have HLR4 := hide hlr
            have ST := ST2
            have LV := LV2
            clear hlr ST2 LV2
            have z0 := (ST.out).z.c0
            have z1 := (ST.out).z.c1
            have z2 := (ST.out).z.c2
            have zz := (ST.out).z.z
            have n0 := (ST.out).no.c0
            have n1 := (ST.out).no.c1
            have n2 := (ST.out).no.c2
            simp only [noLn] at z0 z1 z2 n0 n1 n2
            have v0 := (LV.out).c0
            have v1 := (LV.out).c1
            have v2 := (LV.out).c2
            have vz := (LV.out).z
            simp only at v0 v1 v2
            rcases (HE.out).nu0 with hnu | ⟨hnu0, hnu1⟩
            · obtain rfl : -1 = nu := hnu.symm
              clear CIN
              by_cases hsp : 0 ≤ sp
              · have hv := HLR4.out
                rw [if_neg (by decide), if_pos hsp, if_pos (by decide)] at hv
                have HV := hide hv
                clear hv HLR4
                go_wp2_with fail
                refine bodyPost_ret (v := lineE LR) (by rw [HV.out]; simp [results, Tryz.results7, go_sem, z0, z1, z2, lineE, lnA, noLn]) rfl ⟨rfl, below_three (ST.out).bel (Nat.le_refl _) _ _ _⟩
              · have hv := HLR4.out
                rw [if_neg (by decide), if_neg hsp] at hv
                have HV := hide hv
                clear hv HLR4
                go_wp2_with fail
                refine bodyPost_ret (v := lineE LR) (by rw [HV.out]; simp [results, Tryz.results7, go_sem, z0, z1, z2, lineE, lnA]) rfl ⟨rfl, below_three ?_ (Nat.le_refl _) _ _ _⟩
                first
                  | exact (ST.out).bel
                  | exact ((ST.out).bel.setCell (p := ⟨V, 0, none⟩) hVle _).setCell (p := ⟨V, 1, none⟩) hVle _
                  | exact (((ST.out).bel.setCell (p := ⟨V, 0, none⟩) hVle _).setCell (p := ⟨V, 1, none⟩) hVle _).setCell (p := ⟨V, 0, none⟩) hVle _
            · have hlr := HLR4.out
              rw [if_pos hnu0] at hlr
              have HLR5 := hide hlr
              clear hlr HLR4
              go_wp2_with fail
              refine Calls.mono (unhide CIN nu _ ST.out) ?_
              rintro e w7 ⟨rfl, hb⟩
              have ST' := hide ((ST.out).next hb)
              have LV' := hide ((LV.out).below hb (LV.out).lt)
              clear hb ST LV z0 z1 z2 zz n0 n1 n2 v0 v1 v2 vz CIN
              have ST := ST'
              have LV := LV'
              clear ST' LV'
              have z0 := (ST.out).z.c0
              have z1 := (ST.out).z.c1
              have z2 := (ST.out).z.c2
              have zz := (ST.out).z.z
              have n0 := (ST.out).no.c0
              have n1 := (ST.out).no.c1
              have n2 := (ST.out).no.c2
              simp only [noLn] at z0 z1 z2 n0 n1 n2
              have v0 := (LV.out).c0
              have v1 := (LV.out).c1
              have v2 := (LV.out).c2
              have vz := (LV.out).z
              simp only at v0 v1 v2
              obtain ⟨n, ny, er, hint⟩ : ∃ n ny er, intV l nu = (n, ny, er) := ⟨_, _, _, rfl⟩
              have hlr := HLR5.out
              rw [hint] at hlr ⊢
              simp only at hlr ⊢
              have HLR4 := hide hlr
              clear hlr HLR5 hint
              rcases eqk er 0 with ⟨he, heb⟩ | ⟨he, heb⟩
              · subst he
                by_cases hb1 : 10000 < n
                · have hv := HLR4.out
                  rw [if_pos (.inr (.inl hb1))] at hv
                  have HV := hide hv
                  clear hv HLR4
                  go_wp2_with fail
                  refine bodyPost_ret (v := lineE LR) (by rw [HV.out]; simp [results, Tryz.results7, go_sem, z0, z1, z2, lineE, lnA, noLn]) rfl ⟨rfl, below_three (ST.out).bel (Nat.le_refl _) _ _ _⟩
                · by_cases hb2 : n < -10000
                  · have hv := HLR4.out
                    rw [if_pos (.inr (.inr hb2))] at hv
                    have HV := hide hv
                    clear hv HLR4
                    go_wp2_with fail
                    refine bodyPost_ret (v := lineE LR) (by rw [HV.out]; simp [results, Tryz.results7, go_sem, z0, z1, z2, lineE, lnA, noLn]) rfl ⟨rfl, below_three (ST.out).bel (Nat.le_refl _) _ _ _⟩
                  · rcases eqk n 0 with ⟨hn0, hn0b⟩ | ⟨hn0, hn0b⟩
                    · subst hn0
                      have hv := HLR4.out
                      rw [if_neg (by simp), if_pos (.inl rfl)] at hv
                      have HV := hide hv
                      clear hv HLR4
                      go_wp2_with fail
                      refine bodyPost_ret (v := lineE LR) (by rw [HV.out]; simp [results, Tryz.results7, go_sem, z0, z1, z2, lineE, lnA, noLn]) rfl ⟨rfl, below_three (ST.out).bel (Nat.le_refl _) _ _ _⟩
                    · by_cases hsp : 0 ≤ sp
                      · by_cases hng : n < 0
                        · have hv := HLR4.out
                          rw [if_neg (by simp; omega), if_pos (.inr ⟨hng, hsp⟩)] at hv
                          have HV := hide hv
                          clear hv HLR4
                          go_wp2_with fail
                          refine bodyPost_ret (v := lineE LR) (by rw [HV.out]; simp [results, Tryz.results7, go_sem, z0, z1, z2, lineE, lnA, noLn]) rfl ⟨rfl, below_three (ST.out).bel (Nat.le_refl _) _ _ _⟩
                        · have hv := HLR4.out
                          rw [if_neg (by simp; omega), if_neg (by omega), if_pos hsp] at hv
                          have HV := hide hv
                          clear hv HLR4
                          go_wp2_with fail
                          refine bodyPost_ret (v := lineE LR) (by rw [HV.out]; simp [results, Tryz.results7, go_sem, z0, z1, z2, lineE, lnA]) rfl ⟨rfl, below_three ?_ (Nat.le_refl _) _ _ _⟩
                          first
                            | exact (ST.out).bel
                            | exact ((ST.out).bel.setCell (p := ⟨V, 0, none⟩) hVle _).setCell (p := ⟨V, 1, none⟩) hVle _
                            | exact (((ST.out).bel.setCell (p := ⟨V, 0, none⟩) hVle _).setCell (p := ⟨V, 1, none⟩) hVle _).setCell (p := ⟨V, 0, none⟩) hVle _
                      · by_cases hng : n < 0
                        · have hv := HLR4.out
                          rw [if_neg (by simp; omega), if_neg (by omega), if_neg hsp] at hv
                          have HV := hide hv
                          clear hv HLR4
                          go_wp2_with fail
                          refine bodyPost_ret (v := lineE LR) (by rw [HV.out]; simp [results, Tryz.results7, go_sem, z0, z1, z2, lineE, lnA]) rfl ⟨rfl, below_three ?_ (Nat.le_refl _) _ _ _⟩
                          first
                            | exact (ST.out).bel
                            | exact ((ST.out).bel.setCell (p := ⟨V, 0, none⟩) hVle _).setCell (p := ⟨V, 1, none⟩) hVle _
                            | exact (((ST.out).bel.setCell (p := ⟨V, 0, none⟩) hVle _).setCell (p := ⟨V, 1, none⟩) hVle _).setCell (p := ⟨V, 0, none⟩) hVle _
                        · have hv := HLR4.out
                          rw [if_neg (by simp; omega), if_neg (by omega), if_neg hsp] at hv
                          have HV := hide hv
                          clear hv HLR4
                          go_wp2_with fail
                          refine bodyPost_ret (v := lineE LR) (by rw [HV.out]; simp [results, Tryz.results7, go_sem, z0, z1, z2, lineE, lnA]) rfl ⟨rfl, below_three ?_ (Nat.le_refl _) _ _ _⟩
                          first
                            | exact (ST.out).bel
                            | exact ((ST.out).bel.setCell (p := ⟨V, 0, none⟩) hVle _).setCell (p := ⟨V, 1, none⟩) hVle _
                            | exact (((ST.out).bel.setCell (p := ⟨V, 0, none⟩) hVle _).setCell (p := ⟨V, 1, none⟩) hVle _).setCell (p := ⟨V, 0, none⟩) hVle _
              · have hen : (er != 0) = true := by rw [bne, heb]; rfl
                have hv := HLR4.out
                rw [if_pos (.inl he)] at hv
                have HV := hide hv
                clear hv HLR4
                go_wp2_with fail
                refine bodyPost_ret (v := lineE LR) (by rw [HV.out]; simp [results, Tryz.results7, go_sem, z0, z1, z2, lineE, lnA, noLn]) rfl ⟨rfl, below_three (ST.out).bel (Nat.le_refl _) _ _ _⟩
          · obtain ⟨j, rfl⟩ := Int.eq_ofNat_of_zero_le hna0
            have hjl : j < l.length := by omega
            obtain ⟨x, hxj⟩ : ∃ x, l[j]? = some x := ⟨_, List.getElem?_eq_getElem hjl⟩
            have hnm : nameOf l (j : Int) = x.2.1 := by
              unfold nameOf tkV
              rw [if_pos hna0, if_neg (by omega), List.getD, show (j : Int).toNat = j from rfl, hxj]
              rfl
            have hlr := HLR4.out
            rw [hnm] at hlr
            have HLR4 := hide hlr
            clear hlr
            rcases (ST2.out).tks.val with ⟨hnil, _⟩ | ⟨b, off, cap', hsl, hltb, hc⟩
            · rw [hnil] at hjl; simp at hjl
            obtain ⟨rfl, rfl⟩ : ao = some ⟨b, off, none⟩ ∧ cap = cap' := by simp at hsl; exact hsl
            obtain ⟨c0, c1, c2, c3⟩ := hc j x hxj
            have hbw : b < w.heap.size := (HT.out) b ⟨off, l.length, cap, rfl⟩ (by intro h; rw [h] at hjl; simp at hjl)
            have hjli : (j : Int) < (l.length : Int) := by omega
            have u0 := (LV2.out).c0
            have u2 := (LV2.out).c2
            have uz := (LV2.out).z
            have hbV : ¬ b = V := by omega
            clear hc hsl hxj c0 c1 c3 hnm
            go_upto_region 26 with fail
            have ST := hide ((ST2.out).put hlt (fun b' hb' => by
              obtain ⟨o', n', c', he⟩ := hb'
              simp at he
              omega) 2 (.string x.2.1))
            have LV := hide ((LV2.out).set2 x.2.1)
            clear ST2 LV2 u0 u2 uz c2 hltb
            generalize w5.setCell ⟨V, 2, none⟩ (.string x.2.1) = w6 at *
            generalize x.2.1 = nm at *
            have z0 := (ST.out).z.c0
            have z1 := (ST.out).z.c1
            have z2 := (ST.out).z.c2
            have zz := (ST.out).z.z
            have n0 := (ST.out).no.c0
            have n1 := (ST.out).no.c1
            have n2 := (ST.out).no.c2
            simp only [noLn] at z0 z1 z2 n0 n1 n2
            have v0 := (LV.out).c0
            have v1 := (LV.out).c1
            have v2 := (LV.out).c2
            have vz := (LV.out).z
            simp only at v0 v1 v2
            rcases (HE.out).nu0 with hnu | ⟨hnu0, hnu1⟩
            · obtain rfl : -1 = nu := hnu.symm
              clear CIN
              by_cases hsp : 0 ≤ sp
              · have hv := HLR4.out
                rw [if_neg (by decide), if_pos hsp, if_neg (by omega)] at hv
                have HV := hide hv
                clear hv HLR4
                go_wp2_with fail
                refine bodyPost_ret (v := lineE LR) (by rw [HV.out]; simp [results, Tryz.results7, go_sem, z0, z1, z2, lineE, lnA]) rfl ⟨rfl, below_three ?_ (Nat.le_refl _) _ _ _⟩
                first
                  | exact (ST.out).bel
                  | exact ((ST.out).bel.setCell (p := ⟨V, 0, none⟩) hVle _).setCell (p := ⟨V, 1, none⟩) hVle _
                  | exact (((ST.out).bel.setCell (p := ⟨V, 0, none⟩) hVle _).setCell (p := ⟨V, 1, none⟩) hVle _).setCell (p := ⟨V, 0, none⟩) hVle _
              · have hv := HLR4.out
                rw [if_neg (by decide), if_neg hsp] at hv
                have HV := hide hv
                clear hv HLR4
                go_wp2_with fail
                refine bodyPost_ret (v := lineE LR) (by rw [HV.out]; simp [results, Tryz.results7, go_sem, z0, z1, z2, lineE, lnA]) rfl ⟨rfl, below_three ?_ (Nat.le_refl _) _ _ _⟩
                first
                  | exact (ST.out).bel
                  | exact ((ST.out).bel.setCell (p := ⟨V, 0, none⟩) hVle _).setCell (p := ⟨V, 1, none⟩) hVle _
                  | exact (((ST.out).bel.setCell (p := ⟨V, 0, none⟩) hVle _).setCell (p := ⟨V, 1, none⟩) hVle _).setCell (p := ⟨V, 0, none⟩) hVle _
            · have hlr := HLR4.out
              rw [if_pos hnu0] at hlr
              have HLR5 := hide hlr
              clear hlr HLR4
              go_wp2_with fail
              refine Calls.mono (unhide CIN nu _ ST.out) ?_
              rintro e w7 ⟨rfl, hb⟩
              have ST' := hide ((ST.out).next hb)
              have LV' := hide ((LV.out).below hb (LV.out).lt)
              clear hb ST LV z0 z1 z2 zz n0 n1 n2 v0 v1 v2 vz CIN
              have ST := ST'
              have LV := LV'
              clear ST' LV'
              have z0 := (ST.out).z.c0
              have z1 := (ST.out).z.c1
              have z2 := (ST.out).z.c2
              have zz := (ST.out).z.z
              have n0 := (ST.out).no.c0
              have n1 := (ST.out).no.c1
              have n2 := (ST.out).no.c2
              simp only [noLn] at z0 z1 z2 n0 n1 n2
              have v0 := (LV.out).c0
              have v1 := (LV.out).c1
              have v2 := (LV.out).c2
              have vz := (LV.out).z
              simp only at v0 v1 v2
              obtain ⟨n, ny, er, hint⟩ : ∃ n ny er, intV l nu = (n, ny, er) := ⟨_, _, _, rfl⟩
              have hlr := HLR5.out
              rw [hint] at hlr ⊢
              simp only at hlr ⊢
              have HLR4 := hide hlr
              clear hlr HLR5 hint
              rcases eqk er 0 with ⟨he, heb⟩ | ⟨he, heb⟩
              · subst he
                by_cases hb1 : 10000 < n
                · have hv := HLR4.out
                  rw [if_pos (.inr (.inl hb1))] at hv
                  have HV := hide hv
                  clear hv HLR4
                  go_wp2_with fail
                  refine bodyPost_ret (v := lineE LR) (by rw [HV.out]; simp [results, Tryz.results7, go_sem, z0, z1, z2, lineE, lnA, noLn]) rfl ⟨rfl, below_three (ST.out).bel (Nat.le_refl _) _ _ _⟩
                · by_cases hb2 : n < -10000
                  · have hv := HLR4.out
                    rw [if_pos (.inr (.inr hb2))] at hv
                    have HV := hide hv
                    clear hv HLR4
                    go_wp2_with fail
                    refine bodyPost_ret (v := lineE LR) (by rw [HV.out]; simp [results, Tryz.results7, go_sem, z0, z1, z2, lineE, lnA, noLn]) rfl ⟨rfl, below_three (ST.out).bel (Nat.le_refl _) _ _ _⟩
                  · rcases eqk n 0 with ⟨hn0, hn0b⟩ | ⟨hn0, hn0b⟩
                    · subst hn0
                      have hv := HLR4.out
                      rw [if_neg (by simp), if_pos (.inl rfl)] at hv
                      have HV := hide hv
                      clear hv HLR4
                      go_wp2_with fail
                      refine bodyPost_ret (v := lineE LR) (by rw [HV.out]; simp [results, Tryz.results7, go_sem, z0, z1, z2, lineE, lnA, noLn]) rfl ⟨rfl, below_three (ST.out).bel (Nat.le_refl _) _ _ _⟩
                    · by_cases hsp : 0 ≤ sp
                      · by_cases hng : n < 0
                        · have hv := HLR4.out
                          rw [if_neg (by simp; omega), if_pos (.inr ⟨hng, hsp⟩)] at hv
                          have HV := hide hv
                          clear hv HLR4
                          go_wp2_with fail
                          refine bodyPost_ret (v := lineE LR) (by rw [HV.out]; simp [results, Tryz.results7, go_sem, z0, z1, z2, lineE, lnA, noLn]) rfl ⟨rfl, below_three (ST.out).bel (Nat.le_refl _) _ _ _⟩
                        · have hv := HLR4.out
                          rw [if_neg (by simp; omega), if_neg (by omega), if_pos hsp] at hv
                          have HV := hide hv
                          clear hv HLR4
                          go_wp2_with fail
                          refine bodyPost_ret (v := lineE LR) (by rw [HV.out]; simp [results, Tryz.results7, go_sem, z0, z1, z2, lineE, lnA]) rfl ⟨rfl, below_three ?_ (Nat.le_refl _) _ _ _⟩
                          first
                            | exact (ST.out).bel
                            | exact ((ST.out).bel.setCell (p := ⟨V, 0, none⟩) hVle _).setCell (p := ⟨V, 1, none⟩) hVle _
                            | exact (((ST.out).bel.setCell (p := ⟨V, 0, none⟩) hVle _).setCell (p := ⟨V, 1, none⟩) hVle _).setCell (p := ⟨V, 0, none⟩) hVle _
                      · by_cases hng : n < 0
                        · have hv := HLR4.out
                          rw [if_neg (by simp; omega), if_neg (by omega), if_neg hsp] at hv
                          have HV := hide hv
                          clear hv HLR4
                          go_wp2_with fail
                          refine bodyPost_ret (v := lineE LR) (by rw [HV.out]; simp [results, Tryz.results7, go_sem, z0, z1, z2, lineE, lnA]) rfl ⟨rfl, below_three ?_ (Nat.le_refl _) _ _ _⟩
                          first
                            | exact (ST.out).bel
                            | exact ((ST.out).bel.setCell (p := ⟨V, 0, none⟩) hVle _).setCell (p := ⟨V, 1, none⟩) hVle _
                            | exact (((ST.out).bel.setCell (p := ⟨V, 0, none⟩) hVle _).setCell (p := ⟨V, 1, none⟩) hVle _).setCell (p := ⟨V, 0, none⟩) hVle _
                        · have hv := HLR4.out
                          rw [if_neg (by simp; omega), if_neg (by omega), if_neg hsp] at hv
                          have HV := hide hv
                          clear hv HLR4
                          go_wp2_with fail
                          refine bodyPost_ret (v := lineE LR) (by rw [HV.out]; simp [results, Tryz.results7, go_sem, z0, z1, z2, lineE, lnA]) rfl ⟨rfl, below_three ?_ (Nat.le_refl _) _ _ _⟩
                          first
                            | exact (ST.out).bel
                            | exact ((ST.out).bel.setCell (p := ⟨V, 0, none⟩) hVle _).setCell (p := ⟨V, 1, none⟩) hVle _
                            | exact (((ST.out).bel.setCell (p := ⟨V, 0, none⟩) hVle _).setCell (p := ⟨V, 1, none⟩) hVle _).setCell (p := ⟨V, 0, none⟩) hVle _
              · have hen : (er != 0) = true := by rw [bne, heb]; rfl
                have hv := HLR4.out
                rw [if_pos (.inl he)] at hv
                have HV := hide hv
                clear hv HLR4
                go_wp2_with fail
                refine bodyPost_ret (v := lineE LR) (by rw [HV.out]; simp [results, Tryz.results7, go_sem, z0, z1, z2, lineE, lnA, noLn]) rfl ⟨rfl, below_three (ST.out).bel (Nat.le_refl _) _ _ _⟩

end Go.Proofs.YtbnfggnklhfimaaGreat

/- Several lines, read by the document's own way. -/
namespace Go.Proofs.YtbnfggnklhfimaaGreat
open Go.RowKit

set_option maxRecDepth 100000 in
set_option maxHeartbeats 2000000 in
theorem rother_any (x : LnD) (w : World) : Calls Tryz.prog 24 #[lnA x] w fun e w' => e = .returned (lnA (otherL x)) ∧ Below w.heap.size w w' := by
  obtain ⟨⟨k, n⟩, s⟩ := x
  have h1 := LnAt.new w k n s
  have hb := (Below.refl _ w).alloc (Nat.le_refl _) (.cells #[.int .i64 k, .int .i64 n, .string s] 26)
  have hb2 := (Below.refl _ (w.alloc (.cells #[.int .i64 k, .int .i64 n, .string s] 26))).alloc (Nat.le_refl _) (.cells #[.int .i64 0, .int .i64 0, .string ⟨#[]⟩] 26)
  have h2 := LnAt.new (w.alloc (.cells #[.int .i64 k, .int .i64 n, .string s] 26)) 0 0 ⟨#[]⟩
  have h3 := h1.below hb2 h1.lt
  have hB := hide (hb.trans (hb2.mono hb.size))
  rw [World.size_alloc] at h2
  have x0 := h3.c0
  have x1 := h3.c1
  have x2 := h3.c2
  have z0 := h2.c0
  have z1 := h2.c1
  have z2 := h2.c2
  have zz := h2.z
  simp only at x0 x1 x2 z0 z1 z2
  have hn1 : ¬ w.heap.size = w.heap.size + 1 := by omega
  have hn2 : ¬ w.heap.size + 1 = w.heap.size := by omega
  clear h1 h2 h3 hb hb2
  unfold otherL lnA
  rcases eqk k 3 with ⟨hk, hkb⟩ | ⟨hk, hkb⟩
  · subst hk
    rw [if_pos rfl]
    go_enter Tryz.func24, Tryz.ntmps24
    go_upto_region 1 with fail
    generalize ((w.alloc (.cells #[.int .i64 3, .int .i64 n, .string s] 26)).alloc (.cells #[.int .i64 0, .int .i64 0, .string ⟨#[]⟩] 26)) = w1 at *
    go_wp2_with fail
    refine bodyPost_ret (v := .agg #[.int .i64 3, .int .i64 n, .string s]) (by simp [results, Tryz.results24, go_sem, z0, z1, z2]) rfl ⟨rfl, below_three hB.out (Nat.le_succ _) _ _ _⟩
  · rw [if_neg hk]
    go_enter Tryz.func24, Tryz.ntmps24
    go_upto_region 1 with fail
    generalize ((w.alloc (.cells #[.int .i64 k, .int .i64 n, .string s] 26)).alloc (.cells #[.int .i64 0, .int .i64 0, .string ⟨#[]⟩] 26)) = w1 at *
    go_wp2_with fail
    refine bodyPost_ret (v := .agg #[.int .i64 1, .int .i64 0, .string ⟨#[]⟩]) (by simp [results, Tryz.results24, go_sem, z0, z1, z2]) rfl ⟨rfl, below_three hB.out (Nat.le_succ _) _ _ _⟩

def lnCells (xs : List LnD) : List Value := xs.flatMap fun x => [.int .i64 x.1.1, .int .i64 x.1.2, .string x.2]

theorem lnCells_snoc (xs : List LnD) (x : LnD) : lnCells (xs ++ [x]) = lnCells xs ++ [.int .i64 x.1.1, .int .i64 x.1.2, .string x.2] := by simp [lnCells]

theorem lnLen (xs : List LnD) : (lnCells xs).length = xs.length * 3 := by
  induction xs with
  | nil => rfl
  | cons x xs ih => simp [lnCells] at ih ⊢; omega

theorem ln_info : (Tryz.prog.info? 26).map (fun i => (i.zero, i.size, i.bytes)) = some (some (.agg #[.int .i64 0, .int .i64 0, .string ⟨#[]⟩]), 3, 32) := by kernel_rfl

theorem cell_three_new (w : World) (T b : Nat) (hb : b = w.heap.size) (c0 c1 c2 : Value) : ∀ j u, [c0, c1, c2][j]? = some u → (w.alloc (.cells #[c0, c1, c2] T)).cell? ((⟨b, 0, none⟩ : Addr).add j) = some u := by
  subst hb
  intro j u h
  have hn := heap_alloc_new w (.cells #[c0, c1, c2] T)
  have e : (⟨w.heap.size, 0, none⟩ : Addr).add j = ⟨w.heap.size, j, none⟩ := by simp [Addr.add]; exact fun h => h.symm
  rw [e, Lib.cell_of_heap hn]
  simpa using h

/-- What follows some lines: others, where a / stands, and some may be. -/
def restR (l : List Tk) (f : Nat) (k : Int) : Except (Int × Int) (List LnD × Int) := if f = 0 ∨ signV l k ⟨#[47]⟩ = false then .ok ([], k) else linesR l f (k + 1)

def addL (acc : List LnD) : Except (Int × Int) (List LnD × Int) → Except (Int × Int) (List LnD × Int)
  | .error e => .error e
  | .ok (xs, j) => .ok (acc ++ xs, j)

theorem lines_err {l : List Tk} {f : Nat} {i : Int} (h : ¬ (lineR l i).2.2 = 0) : linesR l (f + 1) i = .error ((lineR l i).2.1, (lineR l i).2.2) := by rw [linesR, if_neg h]

theorem lines_cons {l : List Tk} {f : Nat} {i : Int} (h : (lineR l i).2.2 = 0) : linesR l (f + 1) i = addL [(lineR l i).1] (restR l f (lineR l i).2.1) := by
  rw [linesR, if_pos h]
  unfold restR
  by_cases hc : f = 0 ∨ signV l (lineR l i).2.1 ⟨#[47]⟩ = false
  · rw [if_pos hc, if_pos hc]; rfl
  · rw [if_neg hc, if_neg hc]
    cases linesR l f ((lineR l i).2.1 + 1) with
    | error e => rfl
    | ok p => rfl

theorem addL_addL (a b : List LnD) (r : Except (Int × Int) (List LnD × Int)) : addL a (addL b r) = addL (a ++ b) r := by
  cases r with
  | error e => rfl
  | ok p => simp [addL]

/-- How Lines ends. -/
def LinesE (w : World) : Except (Int × Int) (List LnD × Int) → Ending → World → Prop
  | .error (a, er), e, _ => e = .returned (.tuple #[.slice none 0 0, .int .i64 a, .int .i64 er])
  | .ok (xs, j), e, w' => ∃ u, e = .returned (.tuple #[u, .int .i64 j, .int .i64 0]) ∧ w'.ownsRow w.heap.size 26 3 u xs.length (lnCells xs)

/-- What the loop over lines keeps. -/
structure LsSt (w wr : World) (v : Value) (l : List Tk) (V : Nat) (x : LnD) (u : Value) (acc : List LnD) : Prop where
  tks : Tks wr v l
  box : LnAt wr V x
  own : wr.ownsRow w.heap.size 26 3 u acc.length (lnCells acc)
  ne : u.ownBlock ≠ some V
  bel : Below w.heap.size w wr
  hv : w.heap.size ≤ V
  tv : Tks w v l

theorem LsSt.next {w w1 w2 : World} {v : Value} {l : List Tk} {V : Nat} {x : LnD} {u : Value} {acc : List LnD} (h : LsSt w w1 v l V x u acc) (hb : Below w1.heap.size w1 w2) : LsSt w w2 v l V x u acc :=
  ⟨h.tks.below hb, h.box.below hb h.box.lt, own_below h.own hb, h.ne, h.bel.trans (hb.mono h.bel.size), h.hv, h.tv⟩

theorem own_slice {w : World} {base e size n : Nat} {v : Value} {xs : List Value} (h : w.ownsRow base e size v n xs) : ∃ ao cap, v = .slice ao n cap := by
  rcases h.2 with ⟨hv, hn⟩ | ⟨g, cap, cur, hv, _⟩
  · exact ⟨none, 0, by rw [hv, hn]⟩
  · exact ⟨_, _, hv⟩

end Go.Proofs.YtbnfggnklhfimaaGreat

/- Several lines, read by the document's own way: walked. -/
namespace Go.Proofs.YtbnfggnklhfimaaGreat
open Go.RowKit

theorem own_put {w : World} {base e size n V i : Nat} {v y : Value} {xs : List Value} (h : w.ownsRow base e size v n xs) (hne : v.ownBlock ≠ some V) : (w.setCell ⟨V, i, none⟩ y).ownsRow base e size v n xs := by
  obtain ⟨h1, h2⟩ := h
  refine ⟨h1, ?_⟩
  rcases h2 with h2 | ⟨g, cap, cur, hv, hg, hh, r⟩
  · exact .inl h2
  · refine .inr ⟨g, cap, cur, hv, hg, (Below.heap_setCell _ _ _ _ (fun e => hne ?_)).trans hh, r⟩
    rw [hv, show g = V from e]; rfl

theorem own_ne {w : World} {base T V n : Nat} {v a b c : Value} {xs : List Value} (h : w.ownsRow base T 3 v n xs) (hb : w.heap[V]? = some (.cells #[a, b, c] T (0, 0))) (hn : 2 ≤ n) : v.ownBlock ≠ some V := by
  rcases h.2 with ⟨rfl, _⟩ | ⟨g, cap, cur, rfl, _, hgb, h1, h2, h3, _⟩
  · simp [Value.ownBlock]
  · intro e'
    obtain rfl : g = V := by simpa [Value.ownBlock] using e'
    rw [hb] at hgb
    simp at hgb
    rw [← hgb] at h3
    simp at h3
    omega

theorem LsSt.put {w w1 : World} {v : Value} {l : List Tk} {V : Nat} {x : LnD} {u : Value} {acc : List LnD} (h : LsSt w w1 v l V x u acc) (k n : Int) (s : ByteArray) :
    LsSt w (((w1.setCell ⟨V, 0, none⟩ (.int .i64 k)).setCell ⟨V, 1, none⟩ (.int .i64 n)).setCell ⟨V, 2, none⟩ (.string s)) v l V ((k, n), s) u acc := by
  have hB := below_three h.bel h.hv (.int .i64 k) (.int .i64 n) (.string s)
  exact ⟨h.tv.below hB, ((h.box.set0 k).set1 n).set2 s, own_put (own_put (own_put h.own h.ne) h.ne) h.ne, h.ne, hB, h.hv, h.tv⟩

set_option maxRecDepth 100000 in
set_option maxHeartbeats 8000000 in
theorem rlines_any (l : List Tk) (at_ : Int) (f0 : Nat) (v : Value) (w : World) (h : Tks w v l) (hl : Short l) (hnm : ∀ i, (tkV l i).2.2.size ≤ 2000) (hm2 : f0 ≤ 3) :
    Calls Tryz.prog 23 #[v, .int .i64 at_, .int .i64 ((f0 : Int) + 1)] w fun e w' => Below w.heap.size w w' ∧ LinesE w (linesR l (f0 + 1) at_) e w' := by
  have cr := fun i w' (ht : Tks w' v l) => rread7_any l i v w' ht hl hnm
  have cs := fun i w' (ht : Tks w' v l) => rsign5_any l i ⟨#[47]⟩ v w' ht hl
  obtain ⟨ao, cap, rfl⟩ : ∃ ao cap, v = .slice ao l.length cap := by
    rcases h.val with ⟨h0, ao, cap, h⟩ | ⟨b, off, cap, h, _⟩
    · exact ⟨ao, cap, by rw [h0]; exact h⟩
    · exact ⟨_, _, h⟩
  have herr := lines_err (l := l) (f := f0) (i := at_)
  have hcons := lines_cons (l := l) (f := f0) (i := at_)
  have h1 := cr at_ w h
  obtain ⟨k1, n1, s1, j1, e1, hx⟩ : ∃ k1 n1 s1 j1 e1, lineR l at_ = (((k1, n1), s1), j1, e1) := ⟨_, _, _, _, _, rfl⟩
  rw [hx] at h1 herr hcons
  simp only at herr hcons
  generalize linesR l (f0 + 1) at_ = RR at *
  have hll := hl.1
  unfold lineE lnA at h1
  have H1 := hide h1
  have CR := hide cr
  have CS := hide cs
  have HTV := hide h
  have HERR := hide herr
  have HCONS := hide hcons
  clear h1 cr cs h hl hnm hx herr hcons
  go_enter Tryz.func23, Tryz.ntmps23
  go_wp2_with fail
  refine Calls.mono H1.out ?_
  rintro e w1 ⟨rfl, hb⟩
  have hbx := LnAt.new w1 k1 n1 s1
  have hB := hb.alloc hb.size (.cells #[.int .i64 k1, .int .i64 n1, .string s1] 26)
  have c0 := hbx.c0
  have c1 := hbx.c1
  have c2 := hbx.c2
  simp only at c0 c1 c2
  rcases eqk e1 0 with ⟨he, heb⟩ | ⟨he, heb⟩
  · subst he
    have hcons := (HCONS.out) rfl
    have hown := World.ownsRow_lit (base := w.heap.size) (e := 26) (size := 3) (w1.alloc (.cells #[.int .i64 k1, .int .i64 n1, .string s1] 26)) #[.int .i64 k1, .int .i64 n1, .string s1] 1 hB.size (by decide) rfl
    have hb2 := (Below.refl _ (w1.alloc (.cells #[.int .i64 k1, .int .i64 n1, .string s1] 26))).alloc (Nat.le_refl _) (.cells #[.int .i64 k1, .int .i64 n1, .string s1] 26)
    have hB2 := hB.trans (hb2.mono hB.size)
    have ST0 : Hid (LsSt w ((w1.alloc (.cells #[.int .i64 k1, .int .i64 n1, .string s1] 26)).alloc (.cells #[.int .i64 k1, .int .i64 n1, .string s1] 26)) (.slice ao l.length cap) l w1.heap.size ((k1, n1), s1) (.slice (some ⟨w1.heap.size + 1, 0, none⟩) 1 1) [((k1, n1), s1)]) := hide
      ⟨(HTV.out).below hB2, hbx.below hb2 hbx.lt, by rw [World.size_alloc] at hown; exact hown, by simp [Value.ownBlock], hB2, hb.size, HTV.out⟩
    have HR0 := hide hcons
    clear hcons hown hb2 hB2 hB hbx hb H1 HERR HCONS HTV heb
    go_wp2_with fail
    go_loopg [10, 11, 12] (f0 + 1) (fun g a b c wx => ∃ (acc : List LnD) (f : Nat) (j : Int) (u : Value) (x : LnD), a = .int .i64 j ∧ b = .int .i64 0 ∧ c = u ∧ Hid (RR = addL acc (restR l f j)) ∧ acc.length + f = f0 + 1 ∧ 1 ≤ acc.length ∧ f < g ∧ Hid (LsSt w wx (.slice ao l.length cap) l w1.heap.size x u acc))
    case atStart => exact ⟨_, f0, j1, _, _, rfl, rfl, rfl, HR0, by simp; omega, by simp, by omega, ST0⟩
    case round =>
      clear ST0 HR0 c0 c1 c2
      obtain ⟨acc, f, j, u, x, rfl, rfl, rfl, HR, hlen, hpos, hfg, ST⟩ := hrel
      obtain ⟨ua, uc, hu⟩ := own_slice (ST.out).own
      subst hu
      by_cases hf : f = 0
      · subst hf
        have hv : RR = .ok (acc, j) := by rw [HR.out]; unfold restR; rw [if_pos (.inl rfl)]; simp [addL]
        have HV := hide hv
        have hnl : ¬ (acc.length : Int) < (f0 : Int) + 1 := by omega
        clear hv HR
        go_wp2_with fail
        go_ret3
        exact ⟨(ST.out).bel, by rw [HV.out]; exact ⟨_, rfl, (ST.out).own⟩⟩
      · have hll2 : (acc.length : Int) < (f0 : Int) + 1 := by omega
        obtain ⟨f', rfl⟩ : ∃ f', f = f' + 1 := ⟨f - 1, by omega⟩
        have csg := unhide CS j _ (ST.out).tks
        have hsi : signV l j ⟨#[47]⟩ = true → 0 ≤ j ∧ j < l.length := fun h => tk_in (fun h8 => by unfold signV at h; rw [h8] at h; simp at h)
        have hrs : restR l (f' + 1) j = if f' + 1 = 0 ∨ signV l j ⟨#[47]⟩ = false then .ok ([], j) else linesR l (f' + 1) (j + 1) := rfl
        generalize signV l j ⟨#[47]⟩ = sg at *
        have CSG := hide csg
        clear csg
        cases sg
        · rw [if_pos (.inr rfl)] at hrs
          have hv : RR = .ok (acc, j) := by rw [HR.out, hrs]; simp [addL]
          have HV := hide hv
          clear hv HR hrs hsi
          go_wp2_with fail
          refine Calls.mono CSG.out ?_
          rintro e w3 ⟨rfl, hb⟩
          have ST3 := hide ((ST.out).next hb)
          clear hb ST CSG
          go_wp2_with fail
          go_ret3
          exact ⟨(ST3.out).bel, by rw [HV.out]; exact ⟨_, rfl, (ST3.out).own⟩⟩
        · rw [if_neg (by simp)] at hrs
          have hi := hsi rfl
          have hov : j + 1 < 9223372036854775807 := by omega
          have hj0 : 0 ≤ j := hi.1
          have herr := lines_err (l := l) (f := f') (i := j + 1)
          have hcons := lines_cons (l := l) (f := f') (i := j + 1)
          have cr := fun w' ht => unhide CR (j + 1) w' ht
          obtain ⟨k2, n2, s2, j2, e2, hx2⟩ : ∃ k2 n2 s2 j2 e2, lineR l (j + 1) = (((k2, n2), s2), j2, e2) := ⟨_, _, _, _, _, rfl⟩
          rw [hx2] at cr herr hcons
          simp only at herr hcons
          unfold lineE lnA at cr
          have CR2 := hide cr
          have HERR := hide herr
          have HCONS := hide hcons
          have HRS := hide hrs
          clear cr herr hcons hrs hx2 hsi hi
          go_wp2_with fail
          refine Calls.mono CSG.out ?_
          rintro e w3 ⟨rfl, hb⟩
          have ST3 := hide ((ST.out).next hb)
          clear hb ST CSG
          go_wp2_with fail
          refine Calls.mono (unhide CR2 _ (ST3.out).tks) ?_
          rintro e w4 ⟨rfl, hb⟩
          have ST4 := hide ((ST3.out).next hb)
          have b0 := (ST4.out).box.c0
          have b1 := (ST4.out).box.c1
          have b2 := (ST4.out).box.c2
          have bz := (ST4.out).box.z
          clear hb ST3 CR2
          rcases eqk e2 0 with ⟨he, heb⟩ | ⟨he, heb⟩
          · subst he
            have hcons := (HCONS.out) rfl
            have hR2 : RR = addL (acc ++ [((k2, n2), s2)]) (restR l f' j2) := by rw [HR.out, HRS.out, hcons, addL_addL]
            have HR2 := hide hR2
            clear hcons hR2 HCONS HERR HRS HR heb
            go_upto_region 9 with fail
            have ST5 := hide ((ST4.out).put k2 n2 s2)
            clear ST4 b0 b1 b2 bz
            generalize ((w4.setCell ⟨w1.heap.size, 0, none⟩ (.int .i64 k2)).setCell ⟨w1.heap.size, 1, none⟩ (.int .i64 n2)).setCell ⟨w1.heap.size, 2, none⟩ (.string s2) = w5 at *
            have c0 := (ST5.out).box.c0
            have c1 := (ST5.out).box.c1
            have c2 := (ST5.out).box.c2
            simp only at c0 c1 c2
            obtain ⟨i0, hi, hz0, hz1, hz2⟩ := info_parts ln_info
            have bb : Below w5.heap.size w5 (w5.alloc (.cells #[.int .i64 k2, .int .i64 n2, .string s2] 26)) := (Below.refl _ w5).alloc (Nat.le_refl _) _
            have own3 := own_below (ST5.out).own bb
            have hsz := (ST5.out).bel.size
            have hal : acc.length ≤ 4 := by omega
            go_wp2_with (at_builtin; refine wpList_append_own _ rfl _ _ 57 rfl w.heap.size 26 i0 _ 3 32 Tryz.underlying57 hi hz0 hz1 hz2 rfl (by decide) _ _ _ rfl own3 ⟨w5.heap.size, 0, none⟩ 1 1 [.int .i64 k2, .int .i64 n2, .string s2] rfl rfl (cell_three_new _ _ _ rfl _ _ _) (by simp [Value.oneCell']) (by unfold maxLen; omega) (by omega) (by simp; omega) ?_)
            intro v' w6 hown' hgrow _
            have hrow : ∀ i, (Value.slice ua acc.length uc).ownBlock = some i → w.heap.size ≤ i := fun i hi => (own3.lt i hi).1
            have hbx6 : LnAt w6 w1.heap.size ((k2, n2), s2) := (hgrow.block w1.heap.size (by have := (ST5.out).box.lt; simp; omega) (fun e => (ST5.out).ne e.symm)).trans (bb.block w1.heap.size (ST5.out).box.lt |>.trans (ST5.out).box)
            have hB6 : Below w.heap.size w w6 := ((ST5.out).bel.trans (bb.mono hsz)).grown hgrow (by simp; omega) (fun i hi => hrow i hi)
            rw [show acc.length + 1 = (acc ++ [((k2, n2), s2)]).length by simp, ← lnCells_snoc acc ((k2, n2), s2)] at hown'
            have hne6 := own_ne hown' hbx6 (by simp; omega)
            have ST6 : Hid (LsSt w w6 (.slice ao l.length cap) l w1.heap.size ((k2, n2), s2) v' (acc ++ [((k2, n2), s2)])) := hide ⟨(ST5.out).tv.below hB6, hbx6, hown', hne6, hB6, (ST5.out).hv, (ST5.out).tv⟩
            obtain ⟨va, vc, hv'⟩ := own_slice hown'
            subst hv'
            clear hown' hgrow hrow hbx6 hB6 hne6 own3 bb ST5 c0 c1 c2
            go_wp2_with fail
            cases gk with
            | zero => omega
            | succ g =>
              go_roundg g
              case measure => omega
              case rel => exact ⟨_, f', j2, _, _, rfl, rfl, rfl, HR2, by simp; omega, by simp, by omega, ST6⟩
          · have herr := (HERR.out) he
            have hv : RR = .error (j2, e2) := by rw [HR.out, HRS.out, herr]; rfl
            have HV := hide hv
            have hen : (e2 != 0) = true := by rw [bne, heb]; rfl
            clear hv herr HCONS HERR HRS HR
            go_wp2_with fail
            go_ret3
            exact ⟨below_three (ST4.out).bel (ST4.out).hv _ _ _, by rw [HV.out]; rfl⟩
  · have herr := (HERR.out) he
    have HV := hide herr
    have hne : (e1 != 0) = true := by rw [bne, heb]; rfl
    have HB := hide hB
    clear herr HERR HCONS hB hbx hb H1 CR CS HTV
    go_wp2_with fail
    go_ret3
    exact ⟨HB.out, by rw [HV.out]; rfl⟩

end Go.Proofs.YtbnfggnklhfimaaGreat

/- Pairs of lines and four of them, read by the document's own way. -/
namespace Go.Proofs.YtbnfggnklhfimaaGreat
open Go.RowKit

theorem lines_bad {l : List Tk} : ∀ {f : Nat} {i a e : Int}, linesR l f i = .error (a, e) → ¬ e = 0
  | 0, i, a, e, h => by cases h
  | f + 1, i, a, e, h => by
    by_cases h0 : (lineR l i).2.2 = 0
    · rw [lines_cons h0] at h
      unfold restR at h
      split at h
      · cases h
      · cases hr : linesR l f ((lineR l i).2.1 + 1) with
        | error p =>
          rw [hr] at h
          obtain ⟨a', e'⟩ := p
          simp only [addL, Except.error.injEq, Prod.mk.injEq] at h
          rw [← h.2]
          exact lines_bad hr
        | ok p => rw [hr] at h; cases h
    · rw [lines_err h0] at h
      simp only [Except.error.injEq, Prod.mk.injEq] at h
      rw [← h.2]
      exact h0

theorem lines_len {l : List Tk} : ∀ {f : Nat} {i j : Int} {xs : List LnD}, linesR l (f + 1) i = .ok (xs, j) → 1 ≤ xs.length ∧ xs.length ≤ f + 1
  | f, i, j, xs, h => by
    by_cases h0 : (lineR l i).2.2 = 0
    · rw [lines_cons h0] at h
      unfold restR at h
      split at h
      · simp only [addL, Except.ok.injEq, Prod.mk.injEq] at h
        rw [← h.1]
        simp
      · rename_i hc
        cases hr : linesR l f ((lineR l i).2.1 + 1) with
        | error p => rw [hr] at h; cases h
        | ok p =>
          obtain ⟨ys, j'⟩ := p
          rw [hr] at h
          simp only [addL, Except.ok.injEq, Prod.mk.injEq] at h
          cases f with
          | zero => exact absurd (.inl rfl) hc
          | succ f =>
            have ih := lines_len hr
            rw [← h.1]
            simp
            omega
    · rw [lines_err h0] at h
      cases h

theorem own_some {w : World} {base e size n : Nat} {v : Value} {xs : List Value} (h : w.ownsRow base e size v n xs) (hn : 1 ≤ n) : ∃ g cap, v = .slice (some ⟨g, 0, none⟩) n cap ∧ base ≤ g ∧ g < w.heap.size := by
  rcases h.2 with ⟨_, h0⟩ | ⟨g, cap, cur, hv, hg, hh, _⟩
  · omega
  · exact ⟨g, cap, hv, hg, (Array.getElem?_eq_some_iff.1 hh).1⟩

def pairE (p : (LnD × LnD) × Int × Int) : Value := .tuple #[lnA p.1.1, lnA p.1.2, .int .i64 p.2.1, .int .i64 p.2.2]

/-- Two lines that are answered lie in their boxes. -/
structure TwoSt (w wr : World) : Prop where
  z : LnAt wr w.heap.size noLn
  y : LnAt wr (w.heap.size + 1) noLn
  bel : Below w.heap.size w wr

theorem TwoSt.next {w w1 w2 : World} (h : TwoSt w w1) (hb : Below w1.heap.size w1 w2) : TwoSt w w2 := ⟨h.z.below hb h.z.lt, h.y.below hb h.y.lt, h.bel.trans (hb.mono h.bel.size)⟩

theorem TwoSt.new (w : World) : TwoSt w ((w.alloc (.cells #[.int .i64 0, .int .i64 0, .string ⟨#[]⟩] 26)).alloc (.cells #[.int .i64 0, .int .i64 0, .string ⟨#[]⟩] 26)) := by
  have hb := (Below.refl _ w).alloc (Nat.le_refl _) (.cells #[.int .i64 0, .int .i64 0, .string ⟨#[]⟩] 26)
  have h1 := LnAt.new w 0 0 ⟨#[]⟩
  have hb2 := (Below.refl _ (w.alloc (.cells #[.int .i64 0, .int .i64 0, .string ⟨#[]⟩] 26))).alloc (Nat.le_refl _) (.cells #[.int .i64 0, .int .i64 0, .string ⟨#[]⟩] 26)
  have h2 := LnAt.new (w.alloc (.cells #[.int .i64 0, .int .i64 0, .string ⟨#[]⟩] 26)) 0 0 ⟨#[]⟩
  refine ⟨h1.below hb2 h1.lt, ?_, hb.trans (hb2.mono hb.size)⟩
  simpa [noLn] using h2

theorem below_two3 {B b c : Nat} {w w' : World} (h : Below B w w') (hb : B ≤ b) (hc : B ≤ c) (x y z u v q : Value) : Below B w ((((((w'.setCell ⟨b, 0, none⟩ x).setCell ⟨b, 1, none⟩ y).setCell ⟨b, 2, none⟩ z).setCell ⟨c, 0, none⟩ u).setCell ⟨c, 1, none⟩ v).setCell ⟨c, 2, none⟩ q) := below_three (below_three h hb x y z) hc u v q

set_option maxRecDepth 100000 in
set_option maxHeartbeats 8000000 in
theorem rpair7_any (l : List Tk) (at_ : Int) (v : Value) (w : World) (h : Tks w v l) (hl : Short l) (hnm : ∀ i, (tkV l i).2.2.size ≤ 2000) :
    Calls Tryz.prog 9 #[v, .int .i64 at_] w fun e w' => e = .returned (pairE (pairR l at_)) ∧ Below w.heap.size w w' := by
  have ST0 := hide (TwoSt.new w)
  have cl := rlines_any l at_ 1 v _ (h.below (ST0.out).bel) hl hnm (by decide)
  have hpr : pairR l at_ = match linesR l 2 at_ with
    | .error (a, e) => ((noLn, noLn), a, e)
    | .ok (xs, j) => match xs with
      | [x, y] => ((x, y), j, 0)
      | x :: _ => ((x, otherL x), j, 0)
      | [] => ((noLn, noLn), j, 0) := rfl
  have hbad := fun a e => lines_bad (l := l) (f := 2) (i := at_) (a := a) (e := e)
  have hlen := fun xs j => lines_len (l := l) (f := 1) (i := at_) (xs := xs) (j := j)
  have co := fun x w => rother_any x w
  obtain ⟨ao, n0, cap, rfl⟩ : ∃ ao n cap, v = .slice ao n cap := by
    rcases h.val with ⟨_, ao, cap, h⟩ | ⟨b, off, cap, h, _⟩
    · exact ⟨_, _, _, h⟩
    · exact ⟨_, _, _, h⟩
  generalize pairR l at_ = PR at *
  generalize linesR l 2 at_ = LR at *
  have CL := hide cl
  have CO := hide co
  clear cl co h hl hnm
  have hn01 : ¬ w.heap.size = w.heap.size + 1 := by omega
  have hn10 : ¬ w.heap.size + 1 = w.heap.size := by omega
  go_enter Tryz.func9, Tryz.ntmps9
  go_upto_region 1 with fail
  generalize ((w.alloc (.cells #[.int .i64 0, .int .i64 0, .string ⟨#[]⟩] 26)).alloc (.cells #[.int .i64 0, .int .i64 0, .string ⟨#[]⟩] 26)) = w0 at *
  have hw0 : w.heap.size + 2 ≤ w0.heap.size := by have := (ST0.out).y.lt; omega
  go_wp2_with fail
  refine Calls.mono CL.out ?_
  rintro e w1 ⟨hb, hE⟩
  have ST1 := hide ((ST0.out).next hb)
  clear hb ST0 CL
  cases LR with
  | error p =>
    obtain ⟨a, er⟩ := p
    obtain rfl : e = .returned (.tuple #[.slice none 0 0, .int .i64 a, .int .i64 er]) := hE
    have hne := hbad a er rfl
    have heb : (er == 0) = false := by simp [hne]
    have hen : (er != 0) = true := by rw [bne, heb]; rfl
    have HV := hide hpr
    have z0 := (ST1.out).z.c0
    have z1 := (ST1.out).z.c1
    have z2 := (ST1.out).z.c2
    have zz := (ST1.out).z.z
    have y0 := (ST1.out).y.c0
    have y1 := (ST1.out).y.c1
    have y2 := (ST1.out).y.c2
    have yz := (ST1.out).y.z
    simp only [noLn] at z0 z1 z2 y0 y1 y2
    clear hpr hbad hlen hne CO
    go_wp2_with fail
    refine bodyPost_ret (v := pairE PR) (by rw [HV.out]; simp [results, Tryz.results9, go_sem, z0, z1, z2, y0, y1, y2, pairE, lnA, noLn]) rfl ⟨rfl, below_two3 (ST1.out).bel (Nat.le_refl _) (by omega) _ _ _ _ _ _⟩
  | ok p =>
    obtain ⟨xs, j⟩ := p
    obtain ⟨u, rfl, hown⟩ := hE
    have hx := hlen xs j rfl
    obtain ⟨g, uc, rfl, hg0, hg1⟩ := own_some hown hx.1
    have hcell := fun j hj => hown.cellAt j hj
    have z0 := (ST1.out).z.c0
    have z1 := (ST1.out).z.c1
    have z2 := (ST1.out).z.c2
    have zz := (ST1.out).z.z
    have y0 := (ST1.out).y.c0
    have y1 := (ST1.out).y.c1
    have y2 := (ST1.out).y.c2
    have yz := (ST1.out).y.z
    simp only [noLn] at z0 z1 z2 y0 y1 y2
    have gz : ¬ g = w.heap.size := by omega
    have gy : ¬ g = w.heap.size + 1 := by omega
    clear hbad hlen
    obtain ⟨⟨⟨k, n⟩, s⟩, rfl⟩ | ⟨⟨⟨k, n⟩, s⟩, ⟨⟨k2, n2⟩, s2⟩, rfl⟩ : (∃ x, xs = [x]) ∨ (∃ x y, xs = [x, y]) := by
      match xs, hx with
      | [x], _ => exact .inl ⟨x, rfl⟩
      | [x, y], _ => exact .inr ⟨x, y, rfl⟩
      | _ :: _ :: _ :: _, h => simp at h
    · have r0 : w1.cell? ⟨g, 0, none⟩ = some (.int .i64 k) := hcell 0 (by simp)
      have r1 : w1.cell? ⟨g, 1, none⟩ = some (.int .i64 n) := hcell 1 (by simp)
      have r2 : w1.cell? ⟨g, 2, none⟩ = some (.string s) := hcell 2 (by simp)
      have hpr2 : PR = ((((k, n), s), otherL ((k, n), s)), j, 0) := hpr
      have co := unhide CO ((k, n), s)
      generalize otherL ((k, n), s) = ox at *
      obtain ⟨⟨k2, n2⟩, s2⟩ := ox
      unfold lnA at co
      simp only at co
      have C2 := hide co
      have HV := hide hpr2
      clear hpr hpr2 hcell hown hx co CO
      simp only [List.length_cons, List.length_nil, Nat.zero_add]
      go_upto_region 5 with fail
      have hzl := (ST1.out).z.lt
      have hyl := (ST1.out).y.lt
      go_region_with (first
        | (go_at_call 24; refine (unhide C2 _).mono ?_; rintro e w2 ⟨rfl, hb2⟩; have hb3 : Below w1.heap.size w1 w2 := (Below.refl _ w1).drew.trans hb2; have ST2 := hide ((ST1.out).next hb3); have q0 := (hb3.cell (p := ⟨g, 0, none⟩) hg1).trans r0; have q1 := (hb3.cell (p := ⟨g, 1, none⟩) hg1).trans r1; have q2 := (hb3.cell (p := ⟨g, 2, none⟩) hg1).trans r2; have t0 := (ST2.out).z.c0; have t1 := (ST2.out).z.c1; have t2 := (ST2.out).z.c2; have tz := (ST2.out).z.z; have s0 := (ST2.out).y.c0; have s1 := (ST2.out).y.c1; have s2' := (ST2.out).y.c2; have sz := (ST2.out).y.z; simp only [noLn] at t0 t1 t2 s0 s1 s2'; clear hb2 hb3))
      all_goals (
        go_wp2_with fail
        refine bodyPost_ret (v := pairE PR) (by rw [HV.out]; simp [results, Tryz.results9, go_sem, t0, t1, t2, s0, s1, s2', pairE, lnA]) rfl ⟨rfl, ?_⟩
        first
          | exact below_two3 (ST2.out).bel (Nat.le_refl _) (by omega) _ _ _ _ _ _
          | exact (below_two3 (ST2.out).bel (Nat.le_refl _) (by omega) _ _ _ _ _ _).drew
          | exact below_two3 (ST2.out).bel.drew (Nat.le_refl _) (by omega) _ _ _ _ _ _)
    · have r0 : w1.cell? ⟨g, 0, none⟩ = some (.int .i64 k) := hcell 0 (by simp)
      have r1 : w1.cell? ⟨g, 1, none⟩ = some (.int .i64 n) := hcell 1 (by simp)
      have r2 : w1.cell? ⟨g, 2, none⟩ = some (.string s) := hcell 2 (by simp)
      have r3 : w1.cell? ⟨g, 3, none⟩ = some (.int .i64 k2) := hcell 3 (by simp)
      have r4 : w1.cell? ⟨g, 4, none⟩ = some (.int .i64 n2) := hcell 4 (by simp)
      have r5 : w1.cell? ⟨g, 5, none⟩ = some (.string s2) := hcell 5 (by simp)
      have hpr2 : PR = ((((k, n), s), ((k2, n2), s2)), j, 0) := hpr
      have HV := hide hpr2
      clear hpr hpr2 hcell hown hx CO
      simp only [List.length_cons, List.length_nil, Nat.zero_add, Nat.reduceAdd]
      go_upto_region 6 with fail
      go_region
      go_wp2_with fail
      refine bodyPost_ret (v := pairE PR) (by rw [HV.out]; simp [results, Tryz.results9, go_sem, z0, z1, z2, y0, y1, y2, pairE, lnA]) rfl ⟨rfl, ?_⟩
      first
        | exact below_two3 (ST1.out).bel (Nat.le_refl _) (by omega) _ _ _ _ _ _
        | exact (below_two3 (ST1.out).bel (Nat.le_refl _) (by omega) _ _ _ _ _ _).drew
        | exact below_two3 (ST1.out).bel.drew (Nat.le_refl _) (by omega) _ _ _ _ _ _

end Go.Proofs.YtbnfggnklhfimaaGreat

/- The statements of lines: their own small functions. -/
namespace Go.Proofs.YtbnfggnklhfimaaGreat
open Go.RowKit

set_option maxRecDepth 100000 in
set_option maxHeartbeats 4000000 in
theorem words7_any (s : ByteArray) (w : World) (hs : s.size ≤ 65536) (hm : MaxAt w) :
    Calls Tryz.prog 12 #[.string s] w fun e w' => Below w.heap.size w w' ∧ WordsR s e w' := by
  have hcv := Lib.run_convert_string_bytes (P := Tryz.prog) w 9 65 5 s Tryz.underlying9 Tryz.underlying65 Tryz.underlying5
  have ct := fun c => tokS_any s c w hs hm
  have CT := hide ct
  clear ct hm
  unfold WordsR
  cases ht : tokV s with
  | error x =>
    have HT := hide ht
    clear ht
    go_enter Tryz.func12, Tryz.ntmps12
    go_wp2_with fail
    refine Calls.mono (unhide CT _) ?_
    rintro e w1 ⟨hb, hr⟩
    rw [HT.out] at hr
    obtain ⟨xa, xe⟩ := x
    obtain rfl : e = _ := hr
    clear CT HT
    go_wp2_with fail
    go_ret
    exact ⟨hb, rfl⟩
  | ok l =>
    have HT := hide ht
    clear ht
    go_enter Tryz.func12, Tryz.ntmps12
    go_wp2_with fail
    refine Calls.mono (unhide CT _) ?_
    rintro e w1 ⟨hb, hr⟩
    rw [HT.out] at hr
    obtain ⟨v, rfl, hown⟩ := hr
    have hn : 0 < l.length := by
      have ht := HT.out
      unfold tokV at ht
      split at ht
      · cases ht
      · split at ht
        · cases ht
        · split at ht
          · cases ht
          · cases ht; simp
    have HX := hide (tks_own hown hn)
    obtain ⟨ao, cap, rfl⟩ : ∃ ao cap, v = .slice ao l.length cap := by
      rcases hown.2 with ⟨hv, h0⟩ | ⟨g, cap, cur, hv, _⟩
      · exact ⟨none, 0, by rw [h0]; exact hv⟩
      · exact ⟨_, _, hv⟩
    clear CT HT hown hn
    go_wp2_with fail
    go_ret
    exact ⟨hb, _, rfl, HX.out⟩

/-- Words that are not more than are looked at. -/
def fewV (n m : Nat) (l : List Tk) : Bool := decide (l.length ≤ n) && l.all fun x => decide (x.2.2.size ≤ m) && decide (x.2.1.size ≤ m)

theorem few_short {n m : Nat} {l : List Tk} (h : fewV n m l = true) (hn : n ≤ 1000000) (hm : m ≤ 2000) : Short l ∧ ∀ i, (tkV l i).2.2.size ≤ 2000 := by
  unfold fewV at h
  simp only [Bool.and_eq_true, decide_eq_true_iff, List.all_eq_true] at h
  refine ⟨⟨by omega, fun x hx => by have := h.2 x hx; omega⟩, fun i => ?_⟩
  unfold tkV
  split
  · exact Nat.le_of_ble_eq_true rfl
  · by_cases hi : i.toNat < l.length
    · rw [List.getD, List.getElem?_eq_getElem hi]
      have := (h.2 _ (List.getElem_mem hi)).1
      simp only [Option.getD_some]
      omega
    · rw [List.getD, List.getElem?_eq_none (by omega)]
      exact Nat.le_of_ble_eq_true rfl

theorem few_no {n m : Nat} {l : List Tk} (h : n < l.length) : fewV n m l = false := by unfold fewV; rw [decide_eq_false (by omega)]; rfl

theorem few_big {n m j : Nat} {l : List Tk} {x : Tk} (h : l[j]? = some x) (hb : m < x.2.2.size ∨ m < x.2.1.size) : fewV n m l = false := by
  unfold fewV
  rw [Bool.and_eq_false_iff]
  right
  rw [List.all_eq_false]
  refine ⟨x, List.mem_of_getElem? h, ?_⟩
  simp
  omega

theorem few_yes {n m : Nat} {l : List Tk} (h : l.length ≤ n) (ha : ∀ i x, i < l.length → l[i]? = some x → x.2.1.size ≤ m ∧ x.2.2.size ≤ m) : fewV n m l = true := by
  unfold fewV
  simp only [Bool.and_eq_true, decide_eq_true_iff, List.all_eq_true]
  refine ⟨h, fun x hx => ?_⟩
  obtain ⟨i, hi⟩ := List.getElem?_of_mem hx
  have := ha i x (List.getElem?_eq_some_iff.1 hi).1 hi
  omega

set_option maxRecDepth 100000 in
set_option maxHeartbeats 4000000 in
theorem few7_any (v : Value) (l : List Tk) (w : World) (hx : Tks w v l) :
    Calls Tryz.prog 4 #[v] w fun e w' => e = .returned (.bool (fewV 500 400 l)) ∧ Below w.heap.size w w' := by
  have ST0 : Hid (Tks w v l ∧ Below w.heap.size w w) := hide ⟨hx, Below.refl _ w⟩
  obtain ⟨ao, cap, rfl⟩ : ∃ ao cap, v = .slice ao l.length cap := by
    rcases hx.val with ⟨h0, ao, cap, h⟩ | ⟨b, off, cap, h, _⟩
    · exact ⟨ao, cap, by rw [h0]; exact h⟩
    · exact ⟨_, _, h⟩
  clear hx
  by_cases hl : 500 < l.length
  · have h1 : (500 : Int) < (l.length : Int) := by omega
    rw [few_no hl]
    go_enter Tryz.func4, Tryz.ntmps4
    go_wp2_with fail
    go_ret
    exact ⟨rfl, Below.refl _ _⟩
  · have h1 : ¬ (500 : Int) < (l.length : Int) := by omega
    have hlen : l.length ≤ 500 := by omega
    go_enter Tryz.func4, Tryz.ntmps4
    go_wp2_with fail
    go_loopw [10] (fun i wr => ∃ j : Nat, j ≤ l.length ∧ i = .int .i64 (j : Int) ∧ Hid (Tks wr (.slice ao l.length cap) l ∧ Below w.heap.size w wr) ∧ Hid (∀ i x, i < j → l[i]? = some x → x.2.1.size ≤ 400 ∧ x.2.2.size ≤ 400)) (fun i _ => ((l.length : Int) - intOf i).toNat)
    case atStart => exact ⟨0, by omega, by go_num, ST0, hide (fun _ _ h => by omega)⟩
    case round =>
      clear ST0
      obtain ⟨j, hj, rfl, ST, HS⟩ := hrel
      by_cases hjl : j < l.length
      · obtain ⟨x, hxj⟩ : ∃ x, l[j]? = some x := ⟨_, List.getElem?_eq_getElem hjl⟩
        rcases (ST.out).1.val with ⟨hnil, _⟩ | ⟨b, off, cap', hsl, hlt, hc⟩
        · rw [hnil] at hjl; simp at hjl
        · have hao : ao = some ⟨b, off, none⟩ := by simp at hsl; exact hsl.1
          have hji : (j : Int) < (l.length : Int) := by omega
          obtain ⟨c0, c1, c2, c3⟩ := hc j x hxj
          subst hao
          have hq := (Below.refl _ wr).alloc (Nat.le_refl _) (.cells #[.int .i64 x.1.1, .int .i64 x.1.2, .string x.2.1, .string x.2.2] 43)
          have ST2 : Hid (Tks (wr.alloc (.cells #[.int .i64 x.1.1, .int .i64 x.1.2, .string x.2.1, .string x.2.2] 43)) (.slice (some ⟨b, off, none⟩) l.length cap) l ∧ Below w.heap.size w (wr.alloc (.cells #[.int .i64 x.1.1, .int .i64 x.1.2, .string x.2.1, .string x.2.2] 43))) := hide ⟨(ST.out).1.below hq, (ST.out).2.trans (hq.mono (ST.out).2.size)⟩
          have Hxj := hide hxj
          clear hc hsl hxj hq
          have d2 : (wr.alloc (.cells #[.int .i64 x.1.1, .int .i64 x.1.2, .string x.2.1, .string x.2.2] 43)).cell? ⟨wr.heap.size, 2, none⟩ = some (.string x.2.1) := by rw [Lib.cell_of_heap (heap_alloc_new wr _)]; rfl
          have d3 : (wr.alloc (.cells #[.int .i64 x.1.1, .int .i64 x.1.2, .string x.2.1, .string x.2.2] 43)).cell? ⟨wr.heap.size, 3, none⟩ = some (.string x.2.2) := by rw [Lib.cell_of_heap (heap_alloc_new wr _)]; rfl
          by_cases hbig : 400 < x.2.2.size ∨ 400 < x.2.1.size
          · have hcase : ((400 : Int) < (x.2.2.size : Int)) ∨ (¬ (400 : Int) < (x.2.2.size : Int) ∧ (400 : Int) < (x.2.1.size : Int)) := by omega
            have HV := hide (few_big (n := 500) Hxj.out hbig)
            clear HS ST hbig
            rcases hcase with g1 | ⟨g1, g2⟩ <;> (
              go_wp2_with fail
              go_ret
              exact ⟨by rw [HV.out] <;> rfl, (ST2.out).2⟩)
          · have g1 : ¬ (400 : Int) < (x.2.2.size : Int) := by omega
            have g2 : ¬ (400 : Int) < (x.2.1.size : Int) := by omega
            have HS2 : Hid (∀ i y, i < j + 1 → l[i]? = some y → y.2.1.size ≤ 400 ∧ y.2.2.size ≤ 400) := hide (fun i y hi hy => by
              by_cases e : i = j
              · subst e
                rw [Hxj.out] at hy
                obtain rfl := Option.some.inj hy
                omega
              · exact (HS.out) i y (by omega) hy)
            clear HS ST hbig
            go_wp2_with fail
            go_round
            case rel => exact ⟨j + 1, by omega, by go_num, ST2, HS2⟩
            case measure => simp [intOf]; omega
      · obtain rfl : j = l.length := by omega
        have hjl2 : ¬ (l.length : Int) < (l.length : Int) := by omega
        have HV := hide (few_yes (m := 400) hlen (HS.out))
        go_wp2_with fail
        go_ret
        exact ⟨by rw [HV.out] <;> rfl, (ST.out).2⟩

end Go.Proofs.YtbnfggnklhfimaaGreat

/- The chapter's examples of lines, whatever reads them as it should. -/
namespace Go.Proofs.YtbnfggnklhfimaaGreat
open Go.RowKit

/-- What a reading of lines may stand on. -/
structure LEnv (E : World → Prop) : Prop where
  below : ∀ {w w' : World}, E w → Below w.heap.size w w' → E w'
  mx : ∀ {w : World}, E w → MaxAt w

/-- Read answers as it should. -/
def LineSaid (E : World → Prop) : Prop := ∀ (l : List Tk) (at_ : Int) (v : Value) (w : World), Tks w v l → Short l → (∀ i, (tkV l i).2.2.size ≤ 2000) → E w →
  Calls Tryz.prog 6 #[v, .int .i64 at_] w fun e w' => e = .returned (lineE (lineR l at_)) ∧ Below w.heap.size w w'

/-- Pair answers as it should. -/
def PairSaid (E : World → Prop) : Prop := ∀ (l : List Tk) (at_ : Int) (v : Value) (w : World), Tks w v l → Short l → (∀ i, (tkV l i).2.2.size ≤ 2000) → E w →
  Calls Tryz.prog 8 #[v, .int .i64 at_] w fun e w' => e = .returned (pairE (pairR l at_)) ∧ Below w.heap.size w w'

def lw0 : List Tk := [((1, 0), ⟨#[115, 112, 97, 110]⟩, ⟨#[]⟩), ((3, 5), ⟨#[]⟩, ⟨#[50]⟩), ((1, 7), ⟨#[97]⟩, ⟨#[]⟩), ((8, 8), ⟨#[]⟩, ⟨#[]⟩)]

theorem lt0 : tokV ⟨#[115, 112, 97, 110, 32, 50, 32, 97]⟩ = .ok [(⟨1, ⟨#[115, 112, 97, 110]⟩, ⟨#[]⟩⟩, 0), (⟨3, ⟨#[]⟩, ⟨#[50]⟩⟩, 5), (⟨1, ⟨#[97]⟩, ⟨#[]⟩⟩, 7), (⟨8, ⟨#[]⟩, ⟨#[]⟩⟩, 8)] := by kernel_rfl

theorem lr0 : lineR lw0 0 = (((4, 2), ⟨#[97]⟩), 3, 0) := by decide +kernel

theorem ls0 : Short lw0 := ⟨by decide, by decide⟩

def lw1 : List Tk := [((1, 0), ⟨#[97]⟩, ⟨#[]⟩), ((3, 2), ⟨#[]⟩, ⟨#[50]⟩), ((1, 4), ⟨#[115, 112, 97, 110]⟩, ⟨#[]⟩), ((8, 8), ⟨#[]⟩, ⟨#[]⟩)]

theorem lt1 : tokV ⟨#[97, 32, 50, 32, 115, 112, 97, 110]⟩ = .ok [(⟨1, ⟨#[97]⟩, ⟨#[]⟩⟩, 0), (⟨3, ⟨#[]⟩, ⟨#[50]⟩⟩, 2), (⟨1, ⟨#[115, 112, 97, 110]⟩, ⟨#[]⟩⟩, 4), (⟨8, ⟨#[]⟩, ⟨#[]⟩⟩, 8)] := by kernel_rfl

theorem lr1 : lineR lw1 0 = (((4, 2), ⟨#[97]⟩), 3, 0) := by decide +kernel

theorem ls1 : Short lw1 := ⟨by decide, by decide⟩

def lw2 : List Tk := [((1, 0), ⟨#[115, 112, 97, 110]⟩, ⟨#[]⟩), ((1, 5), ⟨#[97]⟩, ⟨#[]⟩), ((3, 7), ⟨#[]⟩, ⟨#[50]⟩), ((8, 8), ⟨#[]⟩, ⟨#[]⟩)]

theorem lt2 : tokV ⟨#[115, 112, 97, 110, 32, 97, 32, 50]⟩ = .ok [(⟨1, ⟨#[115, 112, 97, 110]⟩, ⟨#[]⟩⟩, 0), (⟨1, ⟨#[97]⟩, ⟨#[]⟩⟩, 5), (⟨3, ⟨#[]⟩, ⟨#[50]⟩⟩, 7), (⟨8, ⟨#[]⟩, ⟨#[]⟩⟩, 8)] := by kernel_rfl

theorem lr2 : lineR lw2 0 = (((4, 2), ⟨#[97]⟩), 3, 0) := by decide +kernel

theorem ls2 : Short lw2 := ⟨by decide, by decide⟩

def lwa : List Tk := [((1, 0), ⟨#[97]⟩, ⟨#[]⟩), ((8, 1), ⟨#[]⟩, ⟨#[]⟩)]

theorem lta : tokV ⟨#[97]⟩ = .ok [(⟨1, ⟨#[97]⟩, ⟨#[]⟩⟩, 0), (⟨8, ⟨#[]⟩, ⟨#[]⟩⟩, 1)] := by kernel_rfl

theorem lra : pairR lwa 0 = ((((3, 0), ⟨#[97]⟩), ((3, 0), ⟨#[97]⟩)), 1, 0) := by decide +kernel

theorem lsa : Short lwa := ⟨by decide, by decide⟩

def lwz : List Tk := [((3, 0), ⟨#[]⟩, ⟨#[48]⟩), ((8, 1), ⟨#[]⟩, ⟨#[]⟩)]

theorem ltz : tokV ⟨#[48]⟩ = .ok [(⟨3, ⟨#[]⟩, ⟨#[48]⟩⟩, 0), (⟨8, ⟨#[]⟩, ⟨#[]⟩⟩, 1)] := by kernel_rfl

theorem lrz : lineR lwz 0 = (noLn, 0, 50) := by decide +kernel

theorem lsz : Short lwz := ⟨by decide, by decide⟩

theorem num_small {l : List Tk} (h : ∀ x ∈ l, x.2.2.size ≤ 2000) (i : Int) : (tkV l i).2.2.size ≤ 2000 := by
  unfold tkV
  split
  · exact Nat.le_of_ble_eq_true rfl
  · by_cases hi : i.toNat < l.length
    · rw [List.getD, List.getElem?_eq_getElem hi]
      exact h _ (List.getElem_mem hi)
    · rw [List.getD, List.getElem?_eq_none (by omega)]
      exact Nat.le_of_ble_eq_true rfl

def three7 : List ByteArray := [⟨#[115, 112, 97, 110, 32, 50, 32, 97]⟩, ⟨#[97, 32, 50, 32, 115, 112, 97, 110]⟩, ⟨#[115, 112, 97, 110, 32, 97, 32, 50]⟩]

/-- What the examples keep. -/
structure LvSt (E : World → Prop) (w wr : World) : Prop where
  want : LnAt wr w.heap.size ((4, 2), ⟨#[97]⟩)
  txs : TxAt wr (w.heap.size + 1) three7
  lt : w.heap.size + 1 < wr.heap.size
  env : E wr
  bel : Below w.heap.size w wr

theorem LvSt.next {E : World → Prop} (he : LEnv E) {w w1 w2 : World} (h : LvSt E w w1) (hb : Below w1.heap.size w1 w2) : LvSt E w w2 :=
  ⟨h.want.below hb h.want.lt, h.txs.below hb h.lt, Nat.lt_of_lt_of_le h.lt hb.size, he.below h.env hb, h.bel.trans (hb.mono h.bel.size)⟩

set_option maxRecDepth 100000 in
set_option maxHeartbeats 8000000 in
theorem lives7_of (E : World → Prop) (he : LEnv E) (hR : LineSaid E) (hP : PairSaid E) (w : World) (hw : E w) : Calls Tryz.prog 5 #[] w fun e w' => e = .returned (.bool true) ∧ Below w.heap.size w w' := by
  have h1 := LnAt.new w 4 2 ⟨#[97]⟩
  have b1 := (Below.refl _ w).alloc (Nat.le_refl _) (.cells #[.int .i64 4, .int .i64 2, .string ⟨#[97]⟩] 26)
  have b2 := (Below.refl _ (w.alloc (.cells #[.int .i64 4, .int .i64 2, .string ⟨#[97]⟩] 26))).alloc (Nat.le_refl _) (.cells (three7.map Value.string).toArray 9)
  have hB := b1.trans (b2.mono b1.size)
  have ST0 : Hid (LvSt E w ((w.alloc (.cells #[.int .i64 4, .int .i64 2, .string ⟨#[97]⟩] 26)).alloc (.cells #[.string ⟨#[115, 112, 97, 110, 32, 50, 32, 97]⟩, .string ⟨#[97, 32, 50, 32, 115, 112, 97, 110]⟩, .string ⟨#[115, 112, 97, 110, 32, 97, 32, 50]⟩] 9))) := hide ⟨h1.below b2 h1.lt, txAt_at _ 9 three7 _ (by simp), by simp, he.below hw hB, hB⟩
  clear h1 b1 b2 hB hw
  have HE := hide he
  have HR := hide hR
  have HP := hide hP
  clear he hR hP
  go_enter Tryz.func5, Tryz.ntmps5
  go_wp2_with fail
  go_loopw [17] (fun i wr => ∃ j : Nat, j ≤ 3 ∧ i = .int .i64 (j : Int) ∧ Hid (LvSt E w wr)) (fun i _ => (3 - intOf i).toNat)
  case atStart => exact ⟨0, by omega, by go_num, ST0⟩
  case round =>
    clear ST0
    obtain ⟨j, hj, rfl, ST⟩ := hrel
    obtain rfl | rfl | rfl | rfl : j = 0 ∨ j = 1 ∨ j = 2 ∨ j = 3 := by omega
    · have cz : wr.cell? ⟨w.heap.size + 1, 0, none⟩ = some (.string ⟨#[115, 112, 97, 110, 32, 50, 32, 97]⟩) := (ST.out).txs 0 (by decide)
      go_wp2_with fail
      refine Calls.mono (words7_any ⟨#[115, 112, 97, 110, 32, 50, 32, 97]⟩ _ (by decide) ((HE.out).mx (ST.out).env)) ?_
      rintro e wa ⟨hb, hr⟩
      unfold WordsR at hr
      rw [lt0] at hr
      obtain ⟨v, rfl, hx⟩ := hr
      have ST2 := hide ((ST.out).next HE.out hb)
      have hrd := unhide HR lw0 0 v wa hx ls0 (num_small (by decide)) (ST2.out).env
      rw [lr0] at hrd
      unfold lineE lnA at hrd
      have CR := hide hrd
      obtain ⟨ao, n0, cap, rfl⟩ : ∃ ao n cap, v = .slice ao n cap := by
        rcases hx.val with ⟨_, ao, cap, h⟩ | ⟨b, off, cap, h, _⟩
        · exact ⟨_, _, _, h⟩
        · exact ⟨_, _, _, h⟩
      clear hb hx hrd ST cz
      go_wp2_with fail
      refine Calls.mono CR.out ?_
      rintro e wb ⟨rfl, hb⟩
      have hq := hb.alloc hb.size (.cells #[.int .i64 4, .int .i64 2, .string ⟨#[97]⟩] 26)
      have ST3 := hide ((ST2.out).next HE.out hq)
      have p0 := (ST3.out).want.c0
      have p1 := (ST3.out).want.c1
      have p2 := (ST3.out).want.c2
      have hN := LnAt.new wb 4 2 ⟨#[97]⟩
      have r0 := hN.c0
      have r1 := hN.c1
      have r2 := hN.c2
      simp only at p0 p1 p2 r0 r1 r2
      clear hb hq ST2 CR hN
      go_upto_region 6 with fail
      generalize wb.alloc (.cells #[.int .i64 4, .int .i64 2, .string ⟨#[97]⟩] 26) = wc at *
      go_wp2_with fail
      go_round
      case rel => exact ⟨1, by omega, by go_num, ST3⟩
      case measure => simp [intOf]
    · have cz : wr.cell? ⟨w.heap.size + 1, 1, none⟩ = some (.string ⟨#[97, 32, 50, 32, 115, 112, 97, 110]⟩) := (ST.out).txs 1 (by decide)
      go_wp2_with fail
      refine Calls.mono (words7_any ⟨#[97, 32, 50, 32, 115, 112, 97, 110]⟩ _ (by decide) ((HE.out).mx (ST.out).env)) ?_
      rintro e wa ⟨hb, hr⟩
      unfold WordsR at hr
      rw [lt1] at hr
      obtain ⟨v, rfl, hx⟩ := hr
      have ST2 := hide ((ST.out).next HE.out hb)
      have hrd := unhide HR lw1 0 v wa hx ls1 (num_small (by decide)) (ST2.out).env
      rw [lr1] at hrd
      unfold lineE lnA at hrd
      have CR := hide hrd
      obtain ⟨ao, n0, cap, rfl⟩ : ∃ ao n cap, v = .slice ao n cap := by
        rcases hx.val with ⟨_, ao, cap, h⟩ | ⟨b, off, cap, h, _⟩
        · exact ⟨_, _, _, h⟩
        · exact ⟨_, _, _, h⟩
      clear hb hx hrd ST cz
      go_wp2_with fail
      refine Calls.mono CR.out ?_
      rintro e wb ⟨rfl, hb⟩
      have hq := hb.alloc hb.size (.cells #[.int .i64 4, .int .i64 2, .string ⟨#[97]⟩] 26)
      have ST3 := hide ((ST2.out).next HE.out hq)
      have p0 := (ST3.out).want.c0
      have p1 := (ST3.out).want.c1
      have p2 := (ST3.out).want.c2
      have hN := LnAt.new wb 4 2 ⟨#[97]⟩
      have r0 := hN.c0
      have r1 := hN.c1
      have r2 := hN.c2
      simp only at p0 p1 p2 r0 r1 r2
      clear hb hq ST2 CR hN
      go_upto_region 6 with fail
      generalize wb.alloc (.cells #[.int .i64 4, .int .i64 2, .string ⟨#[97]⟩] 26) = wc at *
      go_wp2_with fail
      go_round
      case rel => exact ⟨2, by omega, by go_num, ST3⟩
      case measure => simp [intOf]
    · have cz : wr.cell? ⟨w.heap.size + 1, 2, none⟩ = some (.string ⟨#[115, 112, 97, 110, 32, 97, 32, 50]⟩) := (ST.out).txs 2 (by decide)
      go_wp2_with fail
      refine Calls.mono (words7_any ⟨#[115, 112, 97, 110, 32, 97, 32, 50]⟩ _ (by decide) ((HE.out).mx (ST.out).env)) ?_
      rintro e wa ⟨hb, hr⟩
      unfold WordsR at hr
      rw [lt2] at hr
      obtain ⟨v, rfl, hx⟩ := hr
      have ST2 := hide ((ST.out).next HE.out hb)
      have hrd := unhide HR lw2 0 v wa hx ls2 (num_small (by decide)) (ST2.out).env
      rw [lr2] at hrd
      unfold lineE lnA at hrd
      have CR := hide hrd
      obtain ⟨ao, n0, cap, rfl⟩ : ∃ ao n cap, v = .slice ao n cap := by
        rcases hx.val with ⟨_, ao, cap, h⟩ | ⟨b, off, cap, h, _⟩
        · exact ⟨_, _, _, h⟩
        · exact ⟨_, _, _, h⟩
      clear hb hx hrd ST cz
      go_wp2_with fail
      refine Calls.mono CR.out ?_
      rintro e wb ⟨rfl, hb⟩
      have hq := hb.alloc hb.size (.cells #[.int .i64 4, .int .i64 2, .string ⟨#[97]⟩] 26)
      have ST3 := hide ((ST2.out).next HE.out hq)
      have p0 := (ST3.out).want.c0
      have p1 := (ST3.out).want.c1
      have p2 := (ST3.out).want.c2
      have hN := LnAt.new wb 4 2 ⟨#[97]⟩
      have r0 := hN.c0
      have r1 := hN.c1
      have r2 := hN.c2
      simp only at p0 p1 p2 r0 r1 r2
      clear hb hq ST2 CR hN
      go_upto_region 6 with fail
      generalize wb.alloc (.cells #[.int .i64 4, .int .i64 2, .string ⟨#[97]⟩] 26) = wc at *
      go_wp2_with fail
      go_round
      case rel => exact ⟨3, by omega, by go_num, ST3⟩
      case measure => simp [intOf]
    · go_wp2_with fail
      refine Calls.mono (words7_any ⟨#[97]⟩ _ (by decide) ((HE.out).mx (ST.out).env)) ?_
      rintro e wa ⟨hb, hr⟩
      unfold WordsR at hr
      rw [lta] at hr
      obtain ⟨v, rfl, hx⟩ := hr
      have ST2 := hide ((ST.out).next HE.out hb)
      have hrd := unhide HP lwa 0 v wa hx lsa (num_small (by decide)) (ST2.out).env
      rw [lra] at hrd
      unfold pairE lnA at hrd
      have CR := hide hrd
      obtain ⟨ao, n0, cap, rfl⟩ : ∃ ao n cap, v = .slice ao n cap := by
        rcases hx.val with ⟨_, ao, cap, h⟩ | ⟨b, off, cap, h, _⟩
        · exact ⟨_, _, _, h⟩
        · exact ⟨_, _, _, h⟩
      clear hb hx hrd ST
      go_wp2_with fail
      refine Calls.mono CR.out ?_
      rintro e wb ⟨rfl, hb⟩
      have q1 := hb.alloc hb.size (.cells #[.int .i64 3, .int .i64 0, .string ⟨#[97]⟩] 26)
      have q2 := q1.alloc q1.size (.cells #[.int .i64 3, .int .i64 0, .string ⟨#[97]⟩] 26)
      have ST3 := hide ((ST2.out).next HE.out q2)
      have l1 := LnAt.new wb 3 0 ⟨#[97]⟩
      have l2 := LnAt.new (wb.alloc (.cells #[.int .i64 3, .int .i64 0, .string ⟨#[97]⟩] 26)) 3 0 ⟨#[97]⟩
      rw [World.size_alloc] at l2
      have l1' := l1.below ((Below.refl _ (wb.alloc (.cells #[.int .i64 3, .int .i64 0, .string ⟨#[97]⟩] 26))).alloc (Nat.le_refl _) (.cells #[.int .i64 3, .int .i64 0, .string ⟨#[97]⟩] 26)) l1.lt
      have L1 := hide l1'
      have L2 := hide l2
      clear hb q1 q2 ST2 CR l1 l2 l1'
      go_upto_region 10 with fail
      generalize (wb.alloc (.cells #[.int .i64 3, .int .i64 0, .string ⟨#[97]⟩] 26)).alloc (.cells #[.int .i64 3, .int .i64 0, .string ⟨#[97]⟩] 26) = wc at *
      generalize wb.heap.size = b1 at *
      go_wp2_with fail
      refine Calls.mono (words7_any ⟨#[48]⟩ _ (by decide) ((HE.out).mx (ST3.out).env)) ?_
      rintro e wd ⟨hb, hr⟩
      unfold WordsR at hr
      rw [ltz] at hr
      obtain ⟨v, rfl, hx⟩ := hr
      have ST4 := hide ((ST3.out).next HE.out hb)
      have L1' := hide ((L1.out).below hb (L1.out).lt)
      have L2' := hide ((L2.out).below hb (L2.out).lt)
      have hrd := unhide HR lwz 0 v wd hx lsz (num_small (by decide)) (ST4.out).env
      rw [lrz] at hrd
      unfold lineE lnA noLn at hrd
      have CR := hide hrd
      obtain ⟨ao2, n2, cap2, rfl⟩ : ∃ ao n cap, v = .slice ao n cap := by
        rcases hx.val with ⟨_, ao, cap, h⟩ | ⟨b, off, cap, h, _⟩
        · exact ⟨_, _, _, h⟩
        · exact ⟨_, _, _, h⟩
      clear hb hx hrd ST3 L1 L2
      go_wp2_with fail
      refine Calls.mono CR.out ?_
      rintro e we ⟨rfl, hb⟩
      have hq := hb.alloc hb.size (.cells #[.int .i64 0, .int .i64 0, .string ⟨#[]⟩] 26)
      have ST5 := hide ((ST4.out).next HE.out hq)
      have M1 := (L1'.out).below hq (L1'.out).lt
      have M2 := (L2'.out).below hq (L2'.out).lt
      have p0 := M1.c0
      have p1 := M1.c1
      have p2 := M1.c2
      have r0 := M2.c0
      have r1 := M2.c1
      have r2 := M2.c2
      simp only at p0 p1 p2 r0 r1 r2
      clear hb hq ST4 CR L1' L2' M1 M2
      go_upto_region 11 with fail
      generalize we.alloc (.cells #[.int .i64 0, .int .i64 0, .string ⟨#[]⟩] 26) = wf at *
      go_wp2_with fail
      go_ret
      exact ⟨rfl, (ST5.out).bel⟩

end Go.Proofs.YtbnfggnklhfimaaGreat

/- Four lines: their values and boxes. -/
namespace Go.Proofs.YtbnfggnklhfimaaGreat
open Go.RowKit

/-- Four lines as a value. -/
def fourA (p : LnD × LnD × LnD × LnD) : Value := .agg #[.int .i64 p.1.1.1, .int .i64 p.1.1.2, .string p.1.2, .int .i64 p.2.1.1.1, .int .i64 p.2.1.1.2, .string p.2.1.2, .int .i64 p.2.2.1.1.1, .int .i64 p.2.2.1.1.2, .string p.2.2.1.2, .int .i64 p.2.2.2.1.1, .int .i64 p.2.2.2.1.2, .string p.2.2.2.2]

def fourE (p : (LnD × LnD × LnD × LnD) × Int × Int) : Value := .tuple #[fourA p.1, .int .i64 p.2.1, .int .i64 p.2.2]

/-- Four empty lines in a box. -/
def Four0 (w : World) (b : Nat) : Prop := w.heap[b]? = some (.cells #[.int .i64 0, .int .i64 0, .string ⟨#[]⟩, .int .i64 0, .int .i64 0, .string ⟨#[]⟩, .int .i64 0, .int .i64 0, .string ⟨#[]⟩, .int .i64 0, .int .i64 0, .string ⟨#[]⟩] 36 (0, 0))

theorem Four0.lt {w : World} {b : Nat} (h : Four0 w b) : b < w.heap.size := (Array.getElem?_eq_some_iff.1 h).1

theorem Four0.z {w : World} {b : Nat} (h : Four0 w b) (i : Nat) : w.frozen? ⟨b, i, none⟩ = false := Lib.frozen_of_heap h i

theorem Four0.below {w w' : World} {B b : Nat} (h : Four0 w b) (hb : Below B w w') (hB : b < B) : Four0 w' b := (hb.block b hB).trans h

theorem Four0.c0 {w : World} {b : Nat} (h : Four0 w b) : w.cell? ⟨b, 0, none⟩ = some (.int .i64 0) := by rw [Lib.cell_of_heap h]; rfl

theorem Four0.c1 {w : World} {b : Nat} (h : Four0 w b) : w.cell? ⟨b, 1, none⟩ = some (.int .i64 0) := by rw [Lib.cell_of_heap h]; rfl

theorem Four0.c2 {w : World} {b : Nat} (h : Four0 w b) : w.cell? ⟨b, 2, none⟩ = some (.string ⟨#[]⟩) := by rw [Lib.cell_of_heap h]; rfl

theorem Four0.c3 {w : World} {b : Nat} (h : Four0 w b) : w.cell? ⟨b, 3, none⟩ = some (.int .i64 0) := by rw [Lib.cell_of_heap h]; rfl

theorem Four0.c4 {w : World} {b : Nat} (h : Four0 w b) : w.cell? ⟨b, 4, none⟩ = some (.int .i64 0) := by rw [Lib.cell_of_heap h]; rfl

theorem Four0.c5 {w : World} {b : Nat} (h : Four0 w b) : w.cell? ⟨b, 5, none⟩ = some (.string ⟨#[]⟩) := by rw [Lib.cell_of_heap h]; rfl

theorem Four0.c6 {w : World} {b : Nat} (h : Four0 w b) : w.cell? ⟨b, 6, none⟩ = some (.int .i64 0) := by rw [Lib.cell_of_heap h]; rfl

theorem Four0.c7 {w : World} {b : Nat} (h : Four0 w b) : w.cell? ⟨b, 7, none⟩ = some (.int .i64 0) := by rw [Lib.cell_of_heap h]; rfl

theorem Four0.c8 {w : World} {b : Nat} (h : Four0 w b) : w.cell? ⟨b, 8, none⟩ = some (.string ⟨#[]⟩) := by rw [Lib.cell_of_heap h]; rfl

theorem Four0.c9 {w : World} {b : Nat} (h : Four0 w b) : w.cell? ⟨b, 9, none⟩ = some (.int .i64 0) := by rw [Lib.cell_of_heap h]; rfl

theorem Four0.c10 {w : World} {b : Nat} (h : Four0 w b) : w.cell? ⟨b, 10, none⟩ = some (.int .i64 0) := by rw [Lib.cell_of_heap h]; rfl

theorem Four0.c11 {w : World} {b : Nat} (h : Four0 w b) : w.cell? ⟨b, 11, none⟩ = some (.string ⟨#[]⟩) := by rw [Lib.cell_of_heap h]; rfl

theorem below_twelve {B b : Nat} {w w' : World} (h : Below B w w') (hb : B ≤ b) (v0 v1 v2 v3 v4 v5 v6 v7 v8 v9 v10 v11 : Value) : Below B w ((((((((((((w'.setCell ⟨b, 0, none⟩ v0).setCell ⟨b, 1, none⟩ v1).setCell ⟨b, 2, none⟩ v2).setCell ⟨b, 3, none⟩ v3).setCell ⟨b, 4, none⟩ v4).setCell ⟨b, 5, none⟩ v5).setCell ⟨b, 6, none⟩ v6).setCell ⟨b, 7, none⟩ v7).setCell ⟨b, 8, none⟩ v8).setCell ⟨b, 9, none⟩ v9).setCell ⟨b, 10, none⟩ v10).setCell ⟨b, 11, none⟩ v11) := ((((((((((((h.setCell (p := ⟨b, 0, none⟩) hb v0).setCell (p := ⟨b, 1, none⟩) hb v1).setCell (p := ⟨b, 2, none⟩) hb v2).setCell (p := ⟨b, 3, none⟩) hb v3).setCell (p := ⟨b, 4, none⟩) hb v4).setCell (p := ⟨b, 5, none⟩) hb v5).setCell (p := ⟨b, 6, none⟩) hb v6).setCell (p := ⟨b, 7, none⟩) hb v7).setCell (p := ⟨b, 8, none⟩) hb v8).setCell (p := ⟨b, 9, none⟩) hb v9).setCell (p := ⟨b, 10, none⟩) hb v10).setCell (p := ⟨b, 11, none⟩) hb v11)

/-- What Four keeps: its own box, and the lines so far. -/
structure FrSt (w wr : World) (u : Value) (xs : List LnD) : Prop where
  z : Four0 wr w.heap.size
  own : wr.ownsRow (w.heap.size + 1) 26 3 u xs.length (lnCells xs)
  bel : Below w.heap.size w wr

theorem FrSt.next {w w1 w2 : World} {u : Value} {xs : List LnD} (h : FrSt w w1 u xs) (hb : Below w1.heap.size w1 w2) : FrSt w w2 u xs := ⟨h.z.below hb h.z.lt, own_below h.own hb, h.bel.trans (hb.mono h.bel.size)⟩

theorem FrSt.more {w w1 w2 : World} {u v' : Value} {xs : List LnD} {k n : Int} {s : ByteArray} (h : FrSt w w1 u xs) (hown' : w2.ownsRow (w.heap.size + 1) 26 3 v' (xs.length + 1) (lnCells xs ++ [.int .i64 k, .int .i64 n, .string s])) (hgrow : (w1.alloc (.cells #[.int .i64 k, .int .i64 n, .string s] 26)).grownBy w2 u.ownBlock) :
    FrSt w w2 v' (xs ++ [((k, n), s)]) := by
  have hrow : ∀ i, u.ownBlock = some i → w.heap.size + 1 ≤ i := fun i hi => (h.own.lt i hi).1
  have hzl := h.z.lt
  have hsz := h.bel.size
  have bb : Below w1.heap.size w1 (w1.alloc (.cells #[.int .i64 k, .int .i64 n, .string s] 26)) := (Below.refl _ w1).alloc (Nat.le_refl _) _
  refine ⟨?_, ?_, ?_⟩
  · exact (hgrow.block w.heap.size (by simp; omega) (fun e => by have := hrow _ e.symm; omega)).trans ((bb.block w.heap.size hzl).trans h.z)
  · rw [show (xs ++ [((k, n), s)]).length = xs.length + 1 by simp, lnCells_snoc]
    exact hown'
  · exact (h.bel.trans (bb.mono hsz)).grown hgrow (by simp; omega) (fun i hi => by have := hrow i hi; omega)

theorem FrSt.cell {w wr : World} {g n cap : Nat} {xs : List LnD} (h : FrSt w wr (.slice (some ⟨g, 0, none⟩) n cap) xs) (hn : n = xs.length) (j : Nat) (hj : j < xs.length * 3) : wr.cell? ⟨g, j, none⟩ = (lnCells xs)[j]? := by
  subst hn
  exact h.own.cellAt j hj

theorem fill_two (a : LnD) : fillL [a] = fillL [a, otherL a] := by simp [fillL]

theorem fill_three (a b : LnD) : fillL [a, b] = fillL [a, b, otherL a] := by simp [fillL]

theorem fill_four (a b c : LnD) : fillL [a, b, c] = fillL [a, b, c, otherL b] := by simp [fillL]

end Go.Proofs.YtbnfggnklhfimaaGreat

/- Four lines, read by the document's own way. -/
namespace Go.Proofs.YtbnfggnklhfimaaGreat
open Go.RowKit

set_option maxRecDepth 100000 in
set_option maxHeartbeats 16000000 in
theorem rfour7_any (l : List Tk) (at_ : Int) (v : Value) (w : World) (h : Tks w v l) (hl : Short l) (hnm : ∀ i, (tkV l i).2.2.size ≤ 2000) :
    Calls Tryz.prog 11 #[v, .int .i64 at_] w fun e w' => e = .returned (fourE (fourR l at_)) ∧ Below w.heap.size w w' := by
  have hz0 : Four0 (w.alloc (.cells #[.int .i64 0, .int .i64 0, .string ⟨#[]⟩, .int .i64 0, .int .i64 0, .string ⟨#[]⟩, .int .i64 0, .int .i64 0, .string ⟨#[]⟩, .int .i64 0, .int .i64 0, .string ⟨#[]⟩] 36)) w.heap.size := heap_alloc_new w _
  have hb0 := (Below.refl _ w).alloc (Nat.le_refl _) (.cells #[.int .i64 0, .int .i64 0, .string ⟨#[]⟩, .int .i64 0, .int .i64 0, .string ⟨#[]⟩, .int .i64 0, .int .i64 0, .string ⟨#[]⟩, .int .i64 0, .int .i64 0, .string ⟨#[]⟩] 36)
  have cl := rlines_any l at_ 3 v _ (h.below hb0) hl hnm (by decide)
  have hsz0 : (w.alloc (.cells #[.int .i64 0, .int .i64 0, .string ⟨#[]⟩, .int .i64 0, .int .i64 0, .string ⟨#[]⟩, .int .i64 0, .int .i64 0, .string ⟨#[]⟩, .int .i64 0, .int .i64 0, .string ⟨#[]⟩] 36)).heap.size = w.heap.size + 1 := by simp
  have hpr : fourR l at_ = match linesR l 4 at_ with
    | .error (a, e) => ((noLn, noLn, noLn, noLn), a, e)
    | .ok (xs, j) => (fillL xs, j, 0) := rfl
  have hbad := fun a e => lines_bad (l := l) (f := 4) (i := at_) (a := a) (e := e)
  have hlen := fun xs j => lines_len (l := l) (f := 3) (i := at_) (xs := xs) (j := j)
  have co := fun x w => rother_any x w
  obtain ⟨ao, n0, cap, rfl⟩ : ∃ ao n cap, v = .slice ao n cap := by
    rcases h.val with ⟨_, ao, cap, h⟩ | ⟨b, off, cap, h, _⟩
    · exact ⟨_, _, _, h⟩
    · exact ⟨_, _, _, h⟩
  generalize fourR l at_ = PR at *
  generalize linesR l 4 at_ = LR at *
  have CL := hide cl
  have CO := hide co
  have HZ0 := hide hz0
  have HB0 := hide hb0
  clear cl co h hl hnm hz0 hb0
  go_enter Tryz.func11, Tryz.ntmps11
  go_upto_region 1 with fail
  generalize w.alloc (.cells #[.int .i64 0, .int .i64 0, .string ⟨#[]⟩, .int .i64 0, .int .i64 0, .string ⟨#[]⟩, .int .i64 0, .int .i64 0, .string ⟨#[]⟩, .int .i64 0, .int .i64 0, .string ⟨#[]⟩] 36) = w0 at *
  go_wp2_with fail
  refine Calls.mono CL.out ?_
  rintro e w1 ⟨hb, hE⟩
  have hZ1 := (HZ0.out).below hb (HZ0.out).lt
  have hB1 := (HB0.out).trans (hb.mono (HB0.out).size)
  clear hb HZ0 HB0 CL
  cases LR with
  | error p =>
    obtain ⟨a, er⟩ := p
    obtain rfl : e = .returned (.tuple #[.slice none 0 0, .int .i64 a, .int .i64 er]) := hE
    have hne := hbad a er rfl
    have heb : (er == 0) = false := by simp [hne]
    have hen : (er != 0) = true := by rw [bne, heb]; rfl
    have HV := hide hpr
    have ST : Hid (FrSt w w1 (.slice none 0 0) []) := hide ⟨hZ1, World.ownsRow_nil _ _ _ _, hB1⟩
    have z0 := (ST.out).z.c0
    have z1 := (ST.out).z.c1
    have z2 := (ST.out).z.c2
    have z3 := (ST.out).z.c3
    have z4 := (ST.out).z.c4
    have z5 := (ST.out).z.c5
    have z6 := (ST.out).z.c6
    have z7 := (ST.out).z.c7
    have z8 := (ST.out).z.c8
    have z9 := (ST.out).z.c9
    have z10 := (ST.out).z.c10
    have z11 := (ST.out).z.c11
    have zz := (ST.out).z.z
    clear hpr hbad hlen hne CO hZ1 hB1
    go_wp2_with fail
    refine bodyPost_ret (v := fourE PR) (by rw [HV.out]; simp [results, Tryz.results11, go_sem, z0, z1, z2, z3, z4, z5, z6, z7, z8, z9, z10, z11, fourE, fourA, noLn]) rfl ⟨rfl, below_twelve (ST.out).bel (Nat.le_refl _) _ _ _ _ _ _ _ _ _ _ _ _⟩
  | ok p =>
    obtain ⟨xs, j⟩ := p
    obtain ⟨u, rfl, hown⟩ := hE
    have hx := hlen xs j rfl
    rw [hsz0] at hown
    have ST : Hid (FrSt w w1 u xs) := hide ⟨hZ1, hown, hB1⟩
    have hpr2 : PR = (fillL xs, j, 0) := hpr
    obtain ⟨i0, hi, hz0, hz1, hz2⟩ := info_parts ln_info
    clear hbad hlen hown hZ1 hB1 hpr hsz0
    have HV0 := hide hpr2
    clear hpr2
    obtain ⟨ua, uc0, hu0⟩ := own_slice (ST.out).own
    subst hu0
    go_upto_if 24 with fail
    go_cut [7] (fun a wx => ∃ (u : Value) (ys : List LnD), a = u ∧ Hid (PR = (fillL ys, j, 0)) ∧ 2 ≤ ys.length ∧ ys.length ≤ 4 ∧ Hid (FrSt w wx u ys))
    case first =>
      by_cases hn : xs.length = 1
      · obtain ⟨a, rfl⟩ : ∃ a : LnD, xs = [a] := by
          match xs, hn with
          | [a], _ => exact ⟨a, rfl⟩
        obtain ⟨⟨ka, na⟩, sa⟩ := a
        obtain ⟨ko, no, so, ho⟩ : ∃ k n s, otherL ((ka, na), sa) = ((k, n), s) := ⟨_, _, _, rfl⟩
        have hv : PR = (fillL [((ka, na), sa), ((ko, no), so)], j, 0) := by rw [HV0.out, fill_two ((ka, na), sa), ho]
        have HV1 := hide hv
        have C2 : Hid (∀ w, Calls Tryz.prog 24 #[.agg #[.int .i64 ka, .int .i64 na, .string sa]] w fun e w' => e = .returned (.agg #[.int .i64 ko, .int .i64 no, .string so]) ∧ Below w.heap.size w w') := hide (fun w => by have := unhide CO ((ka, na), sa) w; rw [ho] at this; exact this)
        obtain ⟨g, uc, hu, hg, hh⟩ := own_some (ST.out).own (by simp)
        obtain ⟨rfl, rfl⟩ : ua = some ⟨g, 0, none⟩ ∧ uc0 = uc := by simpa using hu
        clear hu
        have q0 : w1.cell? ⟨g, 0, none⟩ = some (.int .i64 ka) := (ST.out).cell rfl 0 (by simp)
        have q1 : w1.cell? ⟨g, 1, none⟩ = some (.int .i64 na) := (ST.out).cell rfl 1 (by simp)
        have q2 : w1.cell? ⟨g, 2, none⟩ = some (.string sa) := (ST.out).cell rfl 2 (by simp)
        clear hv HV0 CO ho hn hx
        simp only [List.length_cons, List.length_nil, Nat.zero_add]
        go_wp2_with fail
        refine (unhide C2 _).mono ?_
        rintro e wa ⟨rfl, hb⟩
        have ST' := hide ((ST.out).next hb)
        clear hb ST q0 q1 q2 C2
        have hszz := (ST'.out).bel.size
        have hszl := (ST'.out).z.lt
        have own3 := own_below (ST'.out).own ((Below.refl _ wa).alloc (Nat.le_refl _) (.cells #[.int .i64 ko, .int .i64 no, .string so] 26))
        go_wp2_with (at_builtin; refine wpList_append_own _ rfl _ _ 57 rfl (w.heap.size + 1) 26 i0 _ 3 32 Tryz.underlying57 hi hz0 hz1 hz2 rfl (by decide) _ _ _ rfl own3 ⟨wa.heap.size, 0, none⟩ 1 1 [.int .i64 ko, .int .i64 no, .string so] rfl rfl (cell_three_new _ _ _ rfl _ _ _) (by simp [Value.oneCell']) (by unfold maxLen; simp) (by simp) (by simp; omega) ?_)
        intro u' wb hown' hgrow _
        have ST2 := hide ((ST'.out).more hown' hgrow)
        clear hown' hgrow own3 ST'
        go_wp2_with fail
        go_meet
        case rel => exact ⟨_, _, rfl, HV1, by simp, by simp, ST2⟩
      · have hnb : ((xs.length : Int) == 1) = false := by simp; omega
        go_wp2_with fail
        go_meet
        case rel => exact ⟨_, xs, rfl, HV0, by omega, by omega, ST⟩
    case rest =>
      obtain ⟨u2, ys, rfl, HV2, hx1, hx2, ST2⟩ := hcut
      clear HV0 ST hx
      have HV0 := HV2
      have ST := ST2
      have hx : 1 ≤ ys.length ∧ ys.length ≤ 4 := ⟨by omega, hx2⟩
      clear HV2 ST2
      obtain ⟨xs, hxs⟩ : ∃ xs, xs = ys := ⟨_, rfl⟩
      subst hxs
      obtain ⟨ua, uc0, hu0⟩ := own_slice (ST.out).own
      subst hu0
      go_upto_if 34 with fail
      go_cut [7] (fun a wx => ∃ (u : Value) (ys : List LnD), a = u ∧ Hid (PR = (fillL ys, j, 0)) ∧ 3 ≤ ys.length ∧ ys.length ≤ 4 ∧ Hid (FrSt w wx u ys))
      case first =>
        by_cases hn : xs.length = 2
        · obtain ⟨a, b, rfl⟩ : ∃ a b : LnD, xs = [a, b] := by
            match xs, hn with
            | [a, b], _ => exact ⟨a, b, rfl⟩
          obtain ⟨⟨ka, na⟩, sa⟩ := a
          obtain ⟨⟨kb, nb⟩, sb⟩ := b
          obtain ⟨ko, no, so, ho⟩ : ∃ k n s, otherL ((ka, na), sa) = ((k, n), s) := ⟨_, _, _, rfl⟩
          have hv : PR = (fillL [((ka, na), sa), ((kb, nb), sb), ((ko, no), so)], j, 0) := by rw [HV0.out, fill_three ((ka, na), sa) ((kb, nb), sb), ho]
          have HV1 := hide hv
          have C2 : Hid (∀ w, Calls Tryz.prog 24 #[.agg #[.int .i64 ka, .int .i64 na, .string sa]] w fun e w' => e = .returned (.agg #[.int .i64 ko, .int .i64 no, .string so]) ∧ Below w.heap.size w w') := hide (fun w => by have := unhide CO ((ka, na), sa) w; rw [ho] at this; exact this)
          obtain ⟨g, uc, hu, hg, hh⟩ := own_some (ST.out).own (by simp)
          obtain ⟨rfl, rfl⟩ : ua = some ⟨g, 0, none⟩ ∧ uc0 = uc := by simpa using hu
          clear hu
          have q0 : wc.cell? ⟨g, 0, none⟩ = some (.int .i64 ka) := (ST.out).cell rfl 0 (by simp)
          have q1 : wc.cell? ⟨g, 1, none⟩ = some (.int .i64 na) := (ST.out).cell rfl 1 (by simp)
          have q2 : wc.cell? ⟨g, 2, none⟩ = some (.string sa) := (ST.out).cell rfl 2 (by simp)
          clear hv HV0 CO ho hn hx
          simp only [List.length_cons, List.length_nil, Nat.zero_add, Nat.reduceAdd]
          go_wp2_with fail
          refine (unhide C2 _).mono ?_
          rintro e wa ⟨rfl, hb⟩
          have ST' := hide ((ST.out).next hb)
          clear hb ST q0 q1 q2 C2
          have hszz := (ST'.out).bel.size
          have hszl := (ST'.out).z.lt
          have own3 := own_below (ST'.out).own ((Below.refl _ wa).alloc (Nat.le_refl _) (.cells #[.int .i64 ko, .int .i64 no, .string so] 26))
          go_wp2_with (at_builtin; refine wpList_append_own _ rfl _ _ 57 rfl (w.heap.size + 1) 26 i0 _ 3 32 Tryz.underlying57 hi hz0 hz1 hz2 rfl (by decide) _ _ _ rfl own3 ⟨wa.heap.size, 0, none⟩ 1 1 [.int .i64 ko, .int .i64 no, .string so] rfl rfl (cell_three_new _ _ _ rfl _ _ _) (by simp [Value.oneCell']) (by unfold maxLen; simp) (by simp) (by simp; omega) ?_)
          intro u' wb hown' hgrow _
          have ST2 := hide ((ST'.out).more hown' hgrow)
          clear hown' hgrow own3 ST'
          go_wp2_with fail
          go_meet
          case rel => exact ⟨_, _, rfl, HV1, by simp, by simp, ST2⟩
        · have hnb : ((xs.length : Int) == 2) = false := by simp; omega
          go_wp2_with fail
          go_meet
          case rel => exact ⟨_, xs, rfl, HV0, by omega, by omega, ST⟩
      case rest =>
        obtain ⟨u2, ys, rfl, HV2, hx1, hx2, ST2⟩ := hcut
        clear HV0 ST hx
        have HV0 := HV2
        have ST := ST2
        have hx : 1 ≤ ys.length ∧ ys.length ≤ 4 := ⟨by omega, hx2⟩
        clear HV2 ST2
        obtain ⟨xs, hxs⟩ : ∃ xs, xs = ys := ⟨_, rfl⟩
        subst hxs
        obtain ⟨ua, uc0, hu0⟩ := own_slice (ST.out).own
        subst hu0
        go_upto_if 44 with fail
        go_cut [7] (fun a wx => ∃ (u : Value) (ys : List LnD), a = u ∧ Hid (PR = (fillL ys, j, 0)) ∧ 4 ≤ ys.length ∧ ys.length ≤ 4 ∧ Hid (FrSt w wx u ys))
        case first =>
          by_cases hn : xs.length = 3
          · obtain ⟨a, b, c, rfl⟩ : ∃ a b c : LnD, xs = [a, b, c] := by
              match xs, hn with
              | [a, b, c], _ => exact ⟨a, b, c, rfl⟩
            obtain ⟨⟨ka, na⟩, sa⟩ := a
            obtain ⟨⟨kb, nb⟩, sb⟩ := b
            obtain ⟨⟨kc, nc⟩, sc⟩ := c
            obtain ⟨ko, no, so, ho⟩ : ∃ k n s, otherL ((kb, nb), sb) = ((k, n), s) := ⟨_, _, _, rfl⟩
            have hv : PR = (fillL [((ka, na), sa), ((kb, nb), sb), ((kc, nc), sc), ((ko, no), so)], j, 0) := by rw [HV0.out, fill_four ((ka, na), sa) ((kb, nb), sb) ((kc, nc), sc), ho]
            have HV1 := hide hv
            have C2 : Hid (∀ w, Calls Tryz.prog 24 #[.agg #[.int .i64 kb, .int .i64 nb, .string sb]] w fun e w' => e = .returned (.agg #[.int .i64 ko, .int .i64 no, .string so]) ∧ Below w.heap.size w w') := hide (fun w => by have := unhide CO ((kb, nb), sb) w; rw [ho] at this; exact this)
            obtain ⟨g, uc, hu, hg, hh⟩ := own_some (ST.out).own (by simp)
            obtain ⟨rfl, rfl⟩ : ua = some ⟨g, 0, none⟩ ∧ uc0 = uc := by simpa using hu
            clear hu
            have q0 : wc.cell? ⟨g, 3, none⟩ = some (.int .i64 kb) := (ST.out).cell rfl 3 (by simp)
            have q1 : wc.cell? ⟨g, 4, none⟩ = some (.int .i64 nb) := (ST.out).cell rfl 4 (by simp)
            have q2 : wc.cell? ⟨g, 5, none⟩ = some (.string sb) := (ST.out).cell rfl 5 (by simp)
            clear hv HV0 CO ho hn hx
            simp only [List.length_cons, List.length_nil, Nat.zero_add, Nat.reduceAdd]
            go_wp2_with fail
            refine (unhide C2 _).mono ?_
            rintro e wa ⟨rfl, hb⟩
            have ST' := hide ((ST.out).next hb)
            clear hb ST q0 q1 q2 C2
            have hszz := (ST'.out).bel.size
            have hszl := (ST'.out).z.lt
            have own3 := own_below (ST'.out).own ((Below.refl _ wa).alloc (Nat.le_refl _) (.cells #[.int .i64 ko, .int .i64 no, .string so] 26))
            go_wp2_with (at_builtin; refine wpList_append_own _ rfl _ _ 57 rfl (w.heap.size + 1) 26 i0 _ 3 32 Tryz.underlying57 hi hz0 hz1 hz2 rfl (by decide) _ _ _ rfl own3 ⟨wa.heap.size, 0, none⟩ 1 1 [.int .i64 ko, .int .i64 no, .string so] rfl rfl (cell_three_new _ _ _ rfl _ _ _) (by simp [Value.oneCell']) (by unfold maxLen; simp) (by simp) (by simp; omega) ?_)
            intro u' wb hown' hgrow _
            have ST2 := hide ((ST'.out).more hown' hgrow)
            clear hown' hgrow own3 ST'
            go_wp2_with fail
            go_meet
            case rel => exact ⟨_, _, rfl, HV1, by simp, by simp, ST2⟩
          · have hnb : ((xs.length : Int) == 3) = false := by simp; omega
            go_wp2_with fail
            go_meet
            case rel => exact ⟨_, xs, rfl, HV0, by omega, by omega, ST⟩
        case rest =>
          obtain ⟨u2, ys, rfl, HV2, hx1, hx2, ST2⟩ := hcut
          obtain ⟨⟨⟨ka, na⟩, sa⟩, ⟨⟨kb, nb⟩, sb⟩, ⟨⟨kc, nc⟩, sc⟩, ⟨⟨kd, nd⟩, sd⟩, rfl⟩ : ∃ a b c d : LnD, ys = [a, b, c, d] := by
            match ys, hx1, hx2 with
            | [a, b, c, d], _, _ => exact ⟨a, b, c, d, rfl⟩
            | _ :: _ :: _ :: _ :: _ :: _, _, h => simp at h
          have hv : PR = ((((ka, na), sa), ((kb, nb), sb), ((kc, nc), sc), ((kd, nd), sd)), j, 0) := HV2.out
          have HV := hide hv
          obtain ⟨g, uc, hu, hg, hh⟩ := own_some (ST2.out).own (by simp)
          subst hu
          have r0 : wc.cell? ⟨g, 0, none⟩ = some (.int .i64 ka) := (ST2.out).cell rfl 0 (by simp)
          have r1 : wc.cell? ⟨g, 1, none⟩ = some (.int .i64 na) := (ST2.out).cell rfl 1 (by simp)
          have r2 : wc.cell? ⟨g, 2, none⟩ = some (.string sa) := (ST2.out).cell rfl 2 (by simp)
          have r3 : wc.cell? ⟨g, 3, none⟩ = some (.int .i64 kb) := (ST2.out).cell rfl 3 (by simp)
          have r4 : wc.cell? ⟨g, 4, none⟩ = some (.int .i64 nb) := (ST2.out).cell rfl 4 (by simp)
          have r5 : wc.cell? ⟨g, 5, none⟩ = some (.string sb) := (ST2.out).cell rfl 5 (by simp)
          have r6 : wc.cell? ⟨g, 6, none⟩ = some (.int .i64 kc) := (ST2.out).cell rfl 6 (by simp)
          have r7 : wc.cell? ⟨g, 7, none⟩ = some (.int .i64 nc) := (ST2.out).cell rfl 7 (by simp)
          have r8 : wc.cell? ⟨g, 8, none⟩ = some (.string sc) := (ST2.out).cell rfl 8 (by simp)
          have r9 : wc.cell? ⟨g, 9, none⟩ = some (.int .i64 kd) := (ST2.out).cell rfl 9 (by simp)
          have r10 : wc.cell? ⟨g, 10, none⟩ = some (.int .i64 nd) := (ST2.out).cell rfl 10 (by simp)
          have r11 : wc.cell? ⟨g, 11, none⟩ = some (.string sd) := (ST2.out).cell rfl 11 (by simp)
          have z0 := (ST2.out).z.c0
          have z1 := (ST2.out).z.c1
          have z2 := (ST2.out).z.c2
          have z3 := (ST2.out).z.c3
          have z4 := (ST2.out).z.c4
          have z5 := (ST2.out).z.c5
          have z6 := (ST2.out).z.c6
          have z7 := (ST2.out).z.c7
          have z8 := (ST2.out).z.c8
          have z9 := (ST2.out).z.c9
          have z10 := (ST2.out).z.c10
          have z11 := (ST2.out).z.c11
          have zz := (ST2.out).z.z
          have hgz : ¬ g = w.heap.size := by omega
          clear CO hv HV0 HV2 hx hx1 hx2 ST hh hg hi hz0 hz1 hz2
          simp only [List.length_cons, List.length_nil, Nat.zero_add, Nat.reduceAdd]
          go_upto_region 10 with fail
          have r0 : wc.drew.cell? ⟨g, 0, none⟩ = some (.int .i64 ka) := r0
          have r1 : wc.drew.cell? ⟨g, 1, none⟩ = some (.int .i64 na) := r1
          have r2 : wc.drew.cell? ⟨g, 2, none⟩ = some (.string sa) := r2
          have r3 : wc.drew.cell? ⟨g, 3, none⟩ = some (.int .i64 kb) := r3
          have r4 : wc.drew.cell? ⟨g, 4, none⟩ = some (.int .i64 nb) := r4
          have r5 : wc.drew.cell? ⟨g, 5, none⟩ = some (.string sb) := r5
          have r6 : wc.drew.cell? ⟨g, 6, none⟩ = some (.int .i64 kc) := r6
          have r7 : wc.drew.cell? ⟨g, 7, none⟩ = some (.int .i64 nc) := r7
          have r8 : wc.drew.cell? ⟨g, 8, none⟩ = some (.string sc) := r8
          have r9 : wc.drew.cell? ⟨g, 9, none⟩ = some (.int .i64 kd) := r9
          have r10 : wc.drew.cell? ⟨g, 10, none⟩ = some (.int .i64 nd) := r10
          have r11 : wc.drew.cell? ⟨g, 11, none⟩ = some (.string sd) := r11
          go_region
          go_wp2_with fail
          refine bodyPost_ret (v := fourE PR) (by rw [HV.out]; simp [results, Tryz.results11, go_sem, z0, z1, z2, z3, z4, z5, z6, z7, z8, z9, z10, z11, fourE, fourA]) rfl ⟨rfl, ?_⟩
          exact (below_twelve (ST2.out).bel (Nat.le_refl _) _ _ _ _ _ _ _ _ _ _ _ _).drew

end Go.Proofs.YtbnfggnklhfimaaGreat

/- LineReads, over contracts to come. -/
namespace Go.Proofs.YtbnfggnklhfimaaGreat
open Go.RowKit

theorem cells_ln : Tryz.prog.cellsOf 26 = 3 := by kernel_rfl

set_option maxRecDepth 100000 in
theorem line_eq (d : Nat) (k n : Int) (s : ByteArray) (w : World) : Sem.run Tryz.prog (Op.equalIn (d + 1 + 1) 26 (.agg #[.int .i64 k, .int .i64 n, .string s]) (.agg #[.int .i64 k, .int .i64 n, .string s])) w = .ok true w := by
  go_simp

theorem ln_isome : ∃ i, Tryz.prog.info? 26 = some i := by
  obtain ⟨i0, hi, _⟩ := info_parts ln_info
  exact ⟨i0, hi⟩

set_option maxRecDepth 100000 in
theorem four_eq (ka na : Int) (sa : ByteArray) (kb nb : Int) (sb : ByteArray) (kc nc : Int) (sc : ByteArray) (kd nd : Int) (sd : ByteArray) (w : World) : Sem.run Tryz.prog (Op.equalIn 10000 36 (.agg #[.int .i64 ka, .int .i64 na, .string sa, .int .i64 kb, .int .i64 nb, .string sb, .int .i64 kc, .int .i64 nc, .string sc, .int .i64 kd, .int .i64 nd, .string sd]) (.agg #[.int .i64 ka, .int .i64 na, .string sa, .int .i64 kb, .int .i64 nb, .string sb, .int .i64 kc, .int .i64 nc, .string sc, .int .i64 kd, .int .i64 nd, .string sd])) w = .ok true w := by
  obtain ⟨i, hi⟩ := ln_isome
  rw [show (10000 : Nat) = 9999 + 1 from rfl, run_equalIn_array w 9999 _ _ Tryz.underlying36 hi, cells_ln]
  have h1 := fun k n s => line_eq 9997 k n s w
  simp only [show (9997 + 1 + 1 : Nat) = 9999 from rfl] at h1
  simp only [show List.range 4 = [0, 1, 2, 3] from rfl, Op.eqItems]
  go_simp

/-- Four answers as it should. -/
def FourSaid (E : World → Prop) : Prop := ∀ (l : List Tk) (at_ : Int) (v : Value) (w : World), Tks w v l → Short l → (∀ i, (tkV l i).2.2.size ≤ 2000) → E w →
  Calls Tryz.prog 10 #[v, .int .i64 at_] w fun e w' => e = .returned (fourE (fourR l at_)) ∧ Below w.heap.size w w'

/-- The document's own Four answers as it should. -/
def RFourSaid : Prop := ∀ (l : List Tk) (at_ : Int) (v : Value) (w : World), Tks w v l → Short l → (∀ i, (tkV l i).2.2.size ≤ 2000) →
  Calls Tryz.prog 11 #[v, .int .i64 at_] w fun e w' => e = .returned (fourE (fourR l at_)) ∧ Below w.heap.size w w'

theorem rfour_said : RFourSaid := fun l at_ v w h hl hnm => rfour7_any l at_ v w h hl hnm

/-- Four lines in a box. -/
def FourAt (w : World) (b : Nat) (cs : Array Value) : Prop := w.heap[b]? = some (.cells cs 36 (0, 0))

/-- What the walk of LineReads keeps. -/
structure LrSt (E : World → Prop) (w wr : World) (v : Value) (l : List Tk) : Prop where
  tks : Tks wr v l
  env : E wr
  bel : Below w.heap.size w wr

theorem LrSt.next {E : World → Prop} (he : LEnv E) {w w1 w2 : World} {v : Value} {l : List Tk} (h : LrSt E w w1 v l) (hb : Below w1.heap.size w1 w2) : LrSt E w w2 v l := ⟨h.tks.below hb, he.below h.env hb, h.bel.trans (hb.mono h.bel.size)⟩

set_option maxRecDepth 100000 in
set_option maxHeartbeats 16000000 in
theorem lineReads_of (E : World → Prop) (he : LEnv E) (hR : LineSaid E) (hP : PairSaid E) (hF : FourSaid E) (hG : RFourSaid) (v : Value) (l : List Tk) (at_ : Int) (w : World) (hx : Tks w v l) (hw : E w) :
    Calls Tryz.prog 3 #[v, .int .i64 at_] w fun e w' => e = .returned (.bool true) ∧ Below w.heap.size w w' := by
  have cl := fun w' (h : E w') => lives7_of E he hR hP w' h
  have cf := few7_any v l w hx
  have ST0 : Hid (LrSt E w w v l) := hide ⟨hx, hw, Below.refl _ w⟩
  have hsm := fun h => few_short (l := l) (n := 500) (m := 400) h (by decide) (by decide)
  obtain ⟨ao, n0, cap, rfl⟩ : ∃ ao n cap, v = .slice ao n cap := by
    rcases hx.val with ⟨_, ao, cap, h⟩ | ⟨b, off, cap, h, _⟩
    · exact ⟨_, _, _, h⟩
    · exact ⟨_, _, _, h⟩
  have HE := hide he
  have CL := hide cl
  have CF := hide cf
  clear cl cf hx hw
  cases hfew : fewV 500 400 l
  · rw [hfew] at CF
    clear hsm hfew
    go_enter Tryz.func3, Tryz.ntmps3
    go_wp2_with fail
    refine Calls.mono CF.out ?_
    rintro e w1 ⟨rfl, hb⟩
    have ST1 := hide ((ST0.out).next HE.out hb)
    clear hb ST0 CF
    go_wp2_with fail
    refine Calls.mono (unhide CL _ (ST1.out).env) ?_
    rintro e w2 ⟨rfl, hb⟩
    have ST2 := hide ((ST1.out).next HE.out hb)
    clear hb ST1 CL
    go_wp2_with fail
    go_ret
    exact ⟨rfl, (ST2.out).bel⟩
  · rw [hfew] at CF
    obtain ⟨hsh, hnm⟩ := hsm hfew
    have c1 := fun w' (h : LrSt E w w' (.slice ao n0 cap) l) => hR l at_ _ w' h.tks hsh hnm h.env
    have c2 := fun w' (h : LrSt E w w' (.slice ao n0 cap) l) => rread7_any l at_ _ w' h.tks hsh hnm
    have c3 := fun w' (h : LrSt E w w' (.slice ao n0 cap) l) => hP l at_ _ w' h.tks hsh hnm h.env
    have c4 := fun w' (h : LrSt E w w' (.slice ao n0 cap) l) => rpair7_any l at_ _ w' h.tks hsh hnm
    have c5 := fun w' (h : LrSt E w w' (.slice ao n0 cap) l) => hF l at_ _ w' h.tks hsh hnm h.env
    have c6 := fun w' (h : LrSt E w w' (.slice ao n0 cap) l) => hG l at_ _ w' h.tks hsh hnm
    generalize lineR l at_ = R1 at *
    generalize pairR l at_ = R2 at *
    generalize fourR l at_ = R3 at *
    obtain ⟨⟨⟨k, n⟩, s⟩, j1, e1⟩ := R1
    obtain ⟨⟨⟨⟨kp, np⟩, sp⟩, ⟨⟨kq, nq⟩, sq⟩⟩, j2, e2⟩ := R2
    obtain ⟨⟨⟨⟨ka, na⟩, sa⟩, ⟨⟨kb, nb⟩, sb⟩, ⟨⟨kc, nc⟩, sc⟩, ⟨⟨kd, nd⟩, sd⟩⟩, j3, e3⟩ := R3
    unfold lineE lnA at c1 c2
    unfold pairE lnA at c3 c4
    unfold fourE fourA at c5 c6
    simp only at c1 c2 c3 c4 c5 c6
    have C1 := hide c1
    have C2 := hide c2
    have C3 := hide c3
    have C4 := hide c4
    have C5 := hide c5
    have C6 := hide c6
    clear c1 c2 c3 c4 c5 c6 hsm hsh hnm hfew he hR hP hF hG
    go_enter Tryz.func3, Tryz.ntmps3
    go_wp2_with fail
    refine Calls.mono CF.out ?_
    rintro e w1 ⟨rfl, hb⟩
    have ST1 := hide ((ST0.out).next HE.out hb)
    clear hb ST0 CF
    go_wp2_with fail
    refine Calls.mono (unhide C1 _ ST1.out) ?_
    rintro e w2 ⟨rfl, hb⟩
    go_upto_region 4 with fail
    have hq := hb.alloc hb.size (.cells #[.int .i64 k, .int .i64 n, .string s] 26)
    have ST2 := hide ((ST1.out).next HE.out hq)
    have LA := hide (LnAt.new w2 k n s)
    clear hb hq ST1 C1
    generalize w2.alloc (.cells #[.int .i64 k, .int .i64 n, .string s] 26) = w3 at *
    generalize w2.heap.size = ba at *
    go_wp2_with fail
    refine Calls.mono (unhide C2 _ ST2.out) ?_
    rintro e w4 ⟨rfl, hb⟩
    go_upto_region 5 with fail
    have hq := hb.alloc hb.size (.cells #[.int .i64 k, .int .i64 n, .string s] 26)
    have ST3 := hide ((ST2.out).next HE.out hq)
    have LA3 := (LA.out).below hq (LA.out).lt
    have LB3 := LnAt.new w4 k n s
    have x0 := LA3.c0
    have x1 := LA3.c1
    have x2 := LA3.c2
    have y0 := LB3.c0
    have y1 := LB3.c1
    have y2 := LB3.c2
    simp only at x0 x1 x2 y0 y1 y2
    clear hb hq ST2 C2 LA LA3 LB3
    generalize w4.alloc (.cells #[.int .i64 k, .int .i64 n, .string s] 26) = w5 at *
    generalize w4.heap.size = bb at *
    go_wp2_with fail
    refine Calls.mono (unhide C3 _ ST3.out) ?_
    rintro e w6 ⟨rfl, hb⟩
    go_upto_region 8 with fail
    have q1 := hb.alloc hb.size (.cells #[.int .i64 kp, .int .i64 np, .string sp] 26)
    have q2 := q1.alloc q1.size (.cells #[.int .i64 kq, .int .i64 nq, .string sq] 26)
    have ST4 := hide ((ST3.out).next HE.out q2)
    have l1 := LnAt.new w6 kp np sp
    have l2 := LnAt.new (w6.alloc (.cells #[.int .i64 kp, .int .i64 np, .string sp] 26)) kq nq sq
    rw [World.size_alloc] at l2
    have LP := hide (l1.below ((Below.refl _ (w6.alloc (.cells #[.int .i64 kp, .int .i64 np, .string sp] 26))).alloc (Nat.le_refl _) (.cells #[.int .i64 kq, .int .i64 nq, .string sq] 26)) l1.lt)
    have LQ := hide l2
    clear hb q1 q2 ST3 C3 l1 l2 x0 x1 x2 y0 y1 y2
    generalize ((w6.alloc (.cells #[.int .i64 kp, .int .i64 np, .string sp] 26)).alloc (.cells #[.int .i64 kq, .int .i64 nq, .string sq] 26)) = w7 at *
    generalize w6.heap.size = bp at *
    go_wp2_with fail
    refine Calls.mono (unhide C4 _ ST4.out) ?_
    rintro e w8 ⟨rfl, hb⟩
    go_upto_region 9 with fail
    have q1 := hb.alloc hb.size (.cells #[.int .i64 kp, .int .i64 np, .string sp] 26)
    have q2 := q1.alloc q1.size (.cells #[.int .i64 kq, .int .i64 nq, .string sq] 26)
    have ST5 := hide ((ST4.out).next HE.out q2)
    have LP5 := (LP.out).below q2 (LP.out).lt
    have LQ5 := (LQ.out).below q2 (LQ.out).lt
    have l1 := LnAt.new w8 kp np sp
    have l2 := LnAt.new (w8.alloc (.cells #[.int .i64 kp, .int .i64 np, .string sp] 26)) kq nq sq
    rw [World.size_alloc] at l2
    have l1' := l1.below ((Below.refl _ (w8.alloc (.cells #[.int .i64 kp, .int .i64 np, .string sp] 26))).alloc (Nat.le_refl _) (.cells #[.int .i64 kq, .int .i64 nq, .string sq] 26)) l1.lt
    have x0 := LP5.c0
    have x1 := LP5.c1
    have x2 := LP5.c2
    have x3 := LQ5.c0
    have x4 := LQ5.c1
    have x5 := LQ5.c2
    have y0 := l1'.c0
    have y1 := l1'.c1
    have y2 := l1'.c2
    have y3 := l2.c0
    have y4 := l2.c1
    have y5 := l2.c2
    simp only at x0 x1 x2 x3 x4 x5 y0 y1 y2 y3 y4 y5
    clear hb q1 q2 ST4 C4 l1 l2 l1' LP LQ LP5 LQ5
    generalize ((w8.alloc (.cells #[.int .i64 kp, .int .i64 np, .string sp] 26)).alloc (.cells #[.int .i64 kq, .int .i64 nq, .string sq] 26)) = w9 at *
    generalize w8.heap.size = bq at *
    go_wp2_with fail
    refine Calls.mono (unhide C5 _ ST5.out) ?_
    rintro e w10 ⟨rfl, hb⟩
    go_upto_region 12 with fail
    have q1 := hb.alloc hb.size (.cells #[.int .i64 ka, .int .i64 na, .string sa, .int .i64 kb, .int .i64 nb, .string sb, .int .i64 kc, .int .i64 nc, .string sc, .int .i64 kd, .int .i64 nd, .string sd] 36)
    have ST6 := hide ((ST5.out).next HE.out q1)
    have F1 : FourAt (w10.alloc (.cells #[.int .i64 ka, .int .i64 na, .string sa, .int .i64 kb, .int .i64 nb, .string sb, .int .i64 kc, .int .i64 nc, .string sc, .int .i64 kd, .int .i64 nd, .string sd] 36)) w10.heap.size #[.int .i64 ka, .int .i64 na, .string sa, .int .i64 kb, .int .i64 nb, .string sb, .int .i64 kc, .int .i64 nc, .string sc, .int .i64 kd, .int .i64 nd, .string sd] := heap_alloc_new w10 _
    have hlt1 : w10.heap.size < (w10.alloc (.cells #[.int .i64 ka, .int .i64 na, .string sa, .int .i64 kb, .int .i64 nb, .string sb, .int .i64 kc, .int .i64 nc, .string sc, .int .i64 kd, .int .i64 nd, .string sd] 36)).heap.size := by simp
    have HF1 := hide F1
    clear hb q1 ST5 C5 F1 x0 x1 x2 x3 x4 x5 y0 y1 y2 y3 y4 y5
    generalize w10.alloc (.cells #[.int .i64 ka, .int .i64 na, .string sa, .int .i64 kb, .int .i64 nb, .string sb, .int .i64 kc, .int .i64 nc, .string sc, .int .i64 kd, .int .i64 nd, .string sd] 36) = w11 at *
    generalize w10.heap.size = bf at *
    go_wp2_with fail
    refine Calls.mono (unhide C6 _ ST6.out) ?_
    rintro e w12 ⟨rfl, hb⟩
    go_upto_region 13 with fail
    have q1 := hb.alloc hb.size (.cells #[.int .i64 ka, .int .i64 na, .string sa, .int .i64 kb, .int .i64 nb, .string sb, .int .i64 kc, .int .i64 nc, .string sc, .int .i64 kd, .int .i64 nd, .string sd] 36)
    have ST7 := hide ((ST6.out).next HE.out q1)
    have F2 : FourAt (w12.alloc (.cells #[.int .i64 ka, .int .i64 na, .string sa, .int .i64 kb, .int .i64 nb, .string sb, .int .i64 kc, .int .i64 nc, .string sc, .int .i64 kd, .int .i64 nd, .string sd] 36)) w12.heap.size #[.int .i64 ka, .int .i64 na, .string sa, .int .i64 kb, .int .i64 nb, .string sb, .int .i64 kc, .int .i64 nc, .string sc, .int .i64 kd, .int .i64 nd, .string sd] := heap_alloc_new w12 _
    have F1 : FourAt (w12.alloc (.cells #[.int .i64 ka, .int .i64 na, .string sa, .int .i64 kb, .int .i64 nb, .string sb, .int .i64 kc, .int .i64 nc, .string sc, .int .i64 kd, .int .i64 nd, .string sd] 36)) bf #[.int .i64 ka, .int .i64 na, .string sa, .int .i64 kb, .int .i64 nb, .string sb, .int .i64 kc, .int .i64 nc, .string sc, .int .i64 kd, .int .i64 nd, .string sd] := (q1.block bf hlt1).trans HF1.out
    have x0 : (w12.alloc (.cells #[.int .i64 ka, .int .i64 na, .string sa, .int .i64 kb, .int .i64 nb, .string sb, .int .i64 kc, .int .i64 nc, .string sc, .int .i64 kd, .int .i64 nd, .string sd] 36)).cell? ⟨bf, 0, none⟩ = some (.int .i64 ka) := by rw [Lib.cell_of_heap F1]; rfl
    have y0 : (w12.alloc (.cells #[.int .i64 ka, .int .i64 na, .string sa, .int .i64 kb, .int .i64 nb, .string sb, .int .i64 kc, .int .i64 nc, .string sc, .int .i64 kd, .int .i64 nd, .string sd] 36)).cell? ⟨w12.heap.size, 0, none⟩ = some (.int .i64 ka) := by rw [Lib.cell_of_heap F2]; rfl
    have x1 : (w12.alloc (.cells #[.int .i64 ka, .int .i64 na, .string sa, .int .i64 kb, .int .i64 nb, .string sb, .int .i64 kc, .int .i64 nc, .string sc, .int .i64 kd, .int .i64 nd, .string sd] 36)).cell? ⟨bf, 1, none⟩ = some (.int .i64 na) := by rw [Lib.cell_of_heap F1]; rfl
    have y1 : (w12.alloc (.cells #[.int .i64 ka, .int .i64 na, .string sa, .int .i64 kb, .int .i64 nb, .string sb, .int .i64 kc, .int .i64 nc, .string sc, .int .i64 kd, .int .i64 nd, .string sd] 36)).cell? ⟨w12.heap.size, 1, none⟩ = some (.int .i64 na) := by rw [Lib.cell_of_heap F2]; rfl
    have x2 : (w12.alloc (.cells #[.int .i64 ka, .int .i64 na, .string sa, .int .i64 kb, .int .i64 nb, .string sb, .int .i64 kc, .int .i64 nc, .string sc, .int .i64 kd, .int .i64 nd, .string sd] 36)).cell? ⟨bf, 2, none⟩ = some (.string sa) := by rw [Lib.cell_of_heap F1]; rfl
    have y2 : (w12.alloc (.cells #[.int .i64 ka, .int .i64 na, .string sa, .int .i64 kb, .int .i64 nb, .string sb, .int .i64 kc, .int .i64 nc, .string sc, .int .i64 kd, .int .i64 nd, .string sd] 36)).cell? ⟨w12.heap.size, 2, none⟩ = some (.string sa) := by rw [Lib.cell_of_heap F2]; rfl
    have x3 : (w12.alloc (.cells #[.int .i64 ka, .int .i64 na, .string sa, .int .i64 kb, .int .i64 nb, .string sb, .int .i64 kc, .int .i64 nc, .string sc, .int .i64 kd, .int .i64 nd, .string sd] 36)).cell? ⟨bf, 3, none⟩ = some (.int .i64 kb) := by rw [Lib.cell_of_heap F1]; rfl
    have y3 : (w12.alloc (.cells #[.int .i64 ka, .int .i64 na, .string sa, .int .i64 kb, .int .i64 nb, .string sb, .int .i64 kc, .int .i64 nc, .string sc, .int .i64 kd, .int .i64 nd, .string sd] 36)).cell? ⟨w12.heap.size, 3, none⟩ = some (.int .i64 kb) := by rw [Lib.cell_of_heap F2]; rfl
    have x4 : (w12.alloc (.cells #[.int .i64 ka, .int .i64 na, .string sa, .int .i64 kb, .int .i64 nb, .string sb, .int .i64 kc, .int .i64 nc, .string sc, .int .i64 kd, .int .i64 nd, .string sd] 36)).cell? ⟨bf, 4, none⟩ = some (.int .i64 nb) := by rw [Lib.cell_of_heap F1]; rfl
    have y4 : (w12.alloc (.cells #[.int .i64 ka, .int .i64 na, .string sa, .int .i64 kb, .int .i64 nb, .string sb, .int .i64 kc, .int .i64 nc, .string sc, .int .i64 kd, .int .i64 nd, .string sd] 36)).cell? ⟨w12.heap.size, 4, none⟩ = some (.int .i64 nb) := by rw [Lib.cell_of_heap F2]; rfl
    have x5 : (w12.alloc (.cells #[.int .i64 ka, .int .i64 na, .string sa, .int .i64 kb, .int .i64 nb, .string sb, .int .i64 kc, .int .i64 nc, .string sc, .int .i64 kd, .int .i64 nd, .string sd] 36)).cell? ⟨bf, 5, none⟩ = some (.string sb) := by rw [Lib.cell_of_heap F1]; rfl
    have y5 : (w12.alloc (.cells #[.int .i64 ka, .int .i64 na, .string sa, .int .i64 kb, .int .i64 nb, .string sb, .int .i64 kc, .int .i64 nc, .string sc, .int .i64 kd, .int .i64 nd, .string sd] 36)).cell? ⟨w12.heap.size, 5, none⟩ = some (.string sb) := by rw [Lib.cell_of_heap F2]; rfl
    have x6 : (w12.alloc (.cells #[.int .i64 ka, .int .i64 na, .string sa, .int .i64 kb, .int .i64 nb, .string sb, .int .i64 kc, .int .i64 nc, .string sc, .int .i64 kd, .int .i64 nd, .string sd] 36)).cell? ⟨bf, 6, none⟩ = some (.int .i64 kc) := by rw [Lib.cell_of_heap F1]; rfl
    have y6 : (w12.alloc (.cells #[.int .i64 ka, .int .i64 na, .string sa, .int .i64 kb, .int .i64 nb, .string sb, .int .i64 kc, .int .i64 nc, .string sc, .int .i64 kd, .int .i64 nd, .string sd] 36)).cell? ⟨w12.heap.size, 6, none⟩ = some (.int .i64 kc) := by rw [Lib.cell_of_heap F2]; rfl
    have x7 : (w12.alloc (.cells #[.int .i64 ka, .int .i64 na, .string sa, .int .i64 kb, .int .i64 nb, .string sb, .int .i64 kc, .int .i64 nc, .string sc, .int .i64 kd, .int .i64 nd, .string sd] 36)).cell? ⟨bf, 7, none⟩ = some (.int .i64 nc) := by rw [Lib.cell_of_heap F1]; rfl
    have y7 : (w12.alloc (.cells #[.int .i64 ka, .int .i64 na, .string sa, .int .i64 kb, .int .i64 nb, .string sb, .int .i64 kc, .int .i64 nc, .string sc, .int .i64 kd, .int .i64 nd, .string sd] 36)).cell? ⟨w12.heap.size, 7, none⟩ = some (.int .i64 nc) := by rw [Lib.cell_of_heap F2]; rfl
    have x8 : (w12.alloc (.cells #[.int .i64 ka, .int .i64 na, .string sa, .int .i64 kb, .int .i64 nb, .string sb, .int .i64 kc, .int .i64 nc, .string sc, .int .i64 kd, .int .i64 nd, .string sd] 36)).cell? ⟨bf, 8, none⟩ = some (.string sc) := by rw [Lib.cell_of_heap F1]; rfl
    have y8 : (w12.alloc (.cells #[.int .i64 ka, .int .i64 na, .string sa, .int .i64 kb, .int .i64 nb, .string sb, .int .i64 kc, .int .i64 nc, .string sc, .int .i64 kd, .int .i64 nd, .string sd] 36)).cell? ⟨w12.heap.size, 8, none⟩ = some (.string sc) := by rw [Lib.cell_of_heap F2]; rfl
    have x9 : (w12.alloc (.cells #[.int .i64 ka, .int .i64 na, .string sa, .int .i64 kb, .int .i64 nb, .string sb, .int .i64 kc, .int .i64 nc, .string sc, .int .i64 kd, .int .i64 nd, .string sd] 36)).cell? ⟨bf, 9, none⟩ = some (.int .i64 kd) := by rw [Lib.cell_of_heap F1]; rfl
    have y9 : (w12.alloc (.cells #[.int .i64 ka, .int .i64 na, .string sa, .int .i64 kb, .int .i64 nb, .string sb, .int .i64 kc, .int .i64 nc, .string sc, .int .i64 kd, .int .i64 nd, .string sd] 36)).cell? ⟨w12.heap.size, 9, none⟩ = some (.int .i64 kd) := by rw [Lib.cell_of_heap F2]; rfl
    have x10 : (w12.alloc (.cells #[.int .i64 ka, .int .i64 na, .string sa, .int .i64 kb, .int .i64 nb, .string sb, .int .i64 kc, .int .i64 nc, .string sc, .int .i64 kd, .int .i64 nd, .string sd] 36)).cell? ⟨bf, 10, none⟩ = some (.int .i64 nd) := by rw [Lib.cell_of_heap F1]; rfl
    have y10 : (w12.alloc (.cells #[.int .i64 ka, .int .i64 na, .string sa, .int .i64 kb, .int .i64 nb, .string sb, .int .i64 kc, .int .i64 nc, .string sc, .int .i64 kd, .int .i64 nd, .string sd] 36)).cell? ⟨w12.heap.size, 10, none⟩ = some (.int .i64 nd) := by rw [Lib.cell_of_heap F2]; rfl
    have x11 : (w12.alloc (.cells #[.int .i64 ka, .int .i64 na, .string sa, .int .i64 kb, .int .i64 nb, .string sb, .int .i64 kc, .int .i64 nc, .string sc, .int .i64 kd, .int .i64 nd, .string sd] 36)).cell? ⟨bf, 11, none⟩ = some (.string sd) := by rw [Lib.cell_of_heap F1]; rfl
    have y11 : (w12.alloc (.cells #[.int .i64 ka, .int .i64 na, .string sa, .int .i64 kb, .int .i64 nb, .string sb, .int .i64 kc, .int .i64 nc, .string sc, .int .i64 kd, .int .i64 nd, .string sd] 36)).cell? ⟨w12.heap.size, 11, none⟩ = some (.string sd) := by rw [Lib.cell_of_heap F2]; rfl
    clear hb q1 ST6 C6 F1 F2 HF1 hlt1
    generalize w12.alloc (.cells #[.int .i64 ka, .int .i64 na, .string sa, .int .i64 kb, .int .i64 nb, .string sb, .int .i64 kc, .int .i64 nc, .string sc, .int .i64 kd, .int .i64 nd, .string sd] 36) = w13 at *
    generalize w12.heap.size = bg at *
    have h4 := fun w => four_eq ka na sa kb nb sb kc nc sc kd nd sd w
    go_wp2_with fail
    refine Calls.mono (unhide CL _ (ST7.out).env) ?_
    rintro e w14 ⟨rfl, hb⟩
    have ST8 := hide ((ST7.out).next HE.out hb)
    clear hb ST7 CL
    go_wp2_with fail
    go_ret
    exact ⟨rfl, (ST8.out).bel⟩

end Go.Proofs.YtbnfggnklhfimaaGreat
