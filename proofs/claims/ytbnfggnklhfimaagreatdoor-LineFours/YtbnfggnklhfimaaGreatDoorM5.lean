/- The texts that this proof stands on, part 5 of 7. -/
import Derived.Test.YtbnfggnklhfimaaGreatDoorM4
import Derived.Test.YtbnfggnklhfimaaGreatDoorM2
import Derived.Test.YtbnfggnklhfimaaGreatDoorM1
import Derived.Deep.RegionHeld3
import Derived.Deep.CutBlock
import Derived.Deep.DeepCutAuto
import Derived.Deep.RegionWith
import Derived.Test.YtbnfggnklhfimaaGreatDoorM3
import Derived.Laws.OwnMore
import Derived.RegionTactic
import Derived.BigRegion

/- Whether a number has a point or an exponent, whatever its bytes. -/
namespace Go.Proofs.YtbnfggnklhfimaaGreatDoor
open Go.RowKit

theorem enc_hi3 (r : Int) (h0 : 128 ≤ r) (hv : Lib.validRune r = true) : (∃ a b, Utf8.encode r = ⟨#[a, b]⟩ ∧ 128 ≤ b.toNat) ∨ (∃ a b c, Utf8.encode r = ⟨#[a, b, c]⟩ ∧ 128 ≤ c.toNat) ∨ (∃ a b c d, Utf8.encode r = ⟨#[a, b, c, d]⟩) := by
  have hr : Utf8.valid r = true := by
    unfold Lib.validRune at hv
    have := of_decide_eq_true hv
    unfold Utf8.valid
    simp
    omega
  unfold Utf8.encode
  rw [hr]
  simp only [if_true]
  rw [if_neg (by omega)]
  split
  · refine .inl ⟨_, _, rfl, ?_⟩
    simp
    omega
  · split
    · refine .inr (.inl ⟨_, _, _, rfl, ?_⟩)
      simp
      omega
    · exact .inr (.inr ⟨_, _, _, _, rfl⟩)

set_option maxRecDepth 100000 in
set_option maxHeartbeats 4000000 in
theorem runeHi3_any (r : Int) (w : World) (h0 : 128 ≤ r) (h1 : r ≤ 2147483647) :
    Calls Tryz.prog 121 #[.string ⟨#[46, 101, 69]⟩, .int .i32 r] w fun e w' => e = .returned (.int .i64 (-1)) ∧ Below w.heap.size w w' := by
  have g1 : ¬ r < 128 := by omega
  have g0 : (0 : Int) ≤ r := by omega
  rcases eqk r 65533 with ⟨he, heb⟩ | ⟨he, heb⟩
  · subst he
    have n0 := fun ty => run_next_ascii (P := Tryz.prog) w ⟨#[46, 101, 69]⟩ 0 ty (by decide) (by decide)
    have n1 := fun ty => run_next_ascii (P := Tryz.prog) w ⟨#[46, 101, 69]⟩ 1 ty (by decide) (by decide)
    have n2 := fun ty => run_next_ascii (P := Tryz.prog) w ⟨#[46, 101, 69]⟩ 2 ty (by decide) (by decide)
    have n3 := fun ty => run_next_end (P := Tryz.prog) w ⟨#[46, 101, 69]⟩ 3 ty (by decide)
    go_enter Tryz.func121, Tryz.ntmps121
    go_wp2_with fail
    go_loopw [176] (fun _ wr => ∃ i : Nat, i ≤ 3 ∧ wr = w.iter ⟨#[46, 101, 69]⟩ i) (fun _ wr => 3 - wr.iterPos w.heap.size)
    case atStart => exact ⟨0, by omega, rfl⟩
    case round =>
      obtain ⟨i, hi, rfl⟩ := hrel
      obtain rfl | rfl | rfl | rfl : i = 0 ∨ i = 1 ∨ i = 2 ∨ i = 3 := by omega
      · go_wp2_with fail
        go_round
        case rel => exact ⟨1, by omega, rfl⟩
        case measure => simp
      · go_wp2_with fail
        go_round
        case rel => exact ⟨2, by omega, rfl⟩
        case measure => simp
      · go_wp2_with fail
        go_round
        case rel => exact ⟨3, by omega, rfl⟩
        case measure => simp
      · go_wp2_with fail
        go_ret
        exact ⟨rfl, (Below.refl _ w).alloc (Nat.le_refl _) _⟩
  · have cv := fun w => Tryz.utf8_ValidRune r w
    cases hv : Lib.validRune r
    · rw [hv] at cv
      have CV := hide cv
      clear cv hv he
      go_enter Tryz.func121, Tryz.ntmps121
      go_wp2_with fail
      refine (unhide CV _).mono ?_
      rintro e w1 ⟨rfl, rfl⟩
      go_wp2_with fail
      go_ret
      exact ⟨rfl, Below.refl _ _⟩
    · rw [hv] at cv
      have CV := hide cv
      rcases enc_hi3 r h0 hv with ⟨a, b, hE, hb⟩ | ⟨a, b, c, hE, hb⟩ | ⟨a, b, c, d, hE⟩
      · skip
        have ci := fun w => Tryz.strings_IndexByte ⟨#[69]⟩ (b.toNat : Int) w
        have hng : Lib.indexByte (⟨#[69]⟩ : ByteArray).data.toList (((b.toNat : Int)).toNat.toUInt8) = -1 := by
          rw [show (((b.toNat : Int)).toNat.toUInt8) = b by simp]
          have h69 : ((69 : UInt8) == b) = false := by rw [beq_eq_false_iff_ne]; intro e; rw [← e] at hb; exact absurd hb (by decide)
          show Lib.indexByte [69] b = -1
          skip
          simp [Lib.indexByte, h69]
          try (intro e; rw [← e] at hb; exact absurd hb (by decide))
          try (intro e; rw [e] at hb; exact absurd hb (by decide))
        rw [hng] at ci
        have CI := hide ci
        have hbb : ((101 : Int) == (b.toNat : Int)) = false := by rw [beq_eq_false_iff_ne]; omega
        have hbn : ((101 : Int) != (b.toNat : Int)) = true := by rw [bne, hbb]; rfl
        have hcx : ((((⟨#[46, 101, 69]⟩ : ByteArray)[1]'(by decide)).toNat : Int) != (((⟨#[a, b]⟩ : ByteArray)[1]'(by show 1 < 2; decide)).toNat : Int)) = true := hbn
        clear cv hv he ci hbn hbb hng
        go_enter Tryz.func121, Tryz.ntmps121
        go_wp2_with fail
        refine (unhide CV _).mono ?_
        rintro e w1 ⟨rfl, hw⟩
        subst w1
        go_wp2_with fail
        go_step3
        go_wp2_with fail
        go_loopw [9] (fun i wr => i = .int .i64 1 ∧ wr = w) (fun _ _ => 0)
        case atStart => exact ⟨rfl, rfl⟩
        case round =>
          obtain ⟨rfl, rfl⟩ := hrel
          go_wp2_with fail
          go_step3
          go_wp2_with fail
          go_quiet (fail)
          go_wp2_with fail
          go_quiet ((go_at_call 74; exact (unhide CI _).mono fun _ _ h => ⟨h.1, _, h.2⟩))
          go_wp2_with fail
          rw [Exit.noGoto_ret]
          simp only [Exit.inBlock]
          (try go_wp2_with fail)
          rw [Exit.noGoto_ret]
          simp only [Exit.inBlock]
          go_ret
          exact ⟨rfl, drw _ _ _⟩
      · skip
        have ci := fun w => Tryz.strings_IndexByte ⟨#[]⟩ (c.toNat : Int) w
        have hng : Lib.indexByte (⟨#[]⟩ : ByteArray).data.toList (((c.toNat : Int)).toNat.toUInt8) = -1 := by
          rw [show (((c.toNat : Int)).toNat.toUInt8) = c by simp]
          rfl
        rw [hng] at ci
        have CI := hide ci
        have hbb : ((69 : Int) == (c.toNat : Int)) = false := by rw [beq_eq_false_iff_ne]; omega
        have hbn : ((69 : Int) != (c.toNat : Int)) = true := by rw [bne, hbb]; rfl
        have hcx : ((((⟨#[46, 101, 69]⟩ : ByteArray)[2]'(by decide)).toNat : Int) != (((⟨#[a, b, c]⟩ : ByteArray)[2]'(by show 2 < 3; decide)).toNat : Int)) = true := hbn
        clear cv hv he ci hbn hbb hng
        go_enter Tryz.func121, Tryz.ntmps121
        go_wp2_with fail
        refine (unhide CV _).mono ?_
        rintro e w1 ⟨rfl, hw⟩
        subst w1
        go_wp2_with fail
        go_step3
        go_wp2_with fail
        go_loopw [9] (fun i wr => i = .int .i64 2 ∧ wr = w) (fun _ _ => 0)
        case atStart => exact ⟨rfl, rfl⟩
        case round =>
          obtain ⟨rfl, rfl⟩ := hrel
          go_wp2_with fail
          go_step3
          go_wp2_with fail
          go_quiet (fail)
          go_wp2_with fail
          go_quiet ((go_at_call 74; exact (unhide CI _).mono fun _ _ h => ⟨h.1, _, h.2⟩))
          go_wp2_with fail
          rw [Exit.noGoto_ret]
          simp only [Exit.inBlock]
          (try go_wp2_with fail)
          rw [Exit.noGoto_ret]
          simp only [Exit.inBlock]
          go_ret
          exact ⟨rfl, drw _ _ _⟩
      · clear cv hv he
        go_enter Tryz.func121, Tryz.ntmps121
        go_wp2_with fail
        refine (unhide CV _).mono ?_
        rintro e w1 ⟨rfl, hw⟩
        subst w1
        go_wp2_with fail
        go_step3
        go_wp2_with fail
        go_loopw [9] (fun i wr => i = .int .i64 3 ∧ wr = w) (fun _ _ => 0)
        case atStart => exact ⟨rfl, rfl⟩
        case round =>
          obtain ⟨rfl, rfl⟩ := hrel
          go_wp2_with fail
          (try rw [Exit.noGoto_ret])
          go_ret
          exact ⟨rfl, Below.refl _ _⟩

theorem hi_not3 {c : UInt8} (h : 128 ≤ c.toNat) : [(46 : UInt8), 101, 69].contains c = false := by
  have h0 : (c == 46) = false := by rw [beq_eq_false_iff_ne]; intro e; rw [e] at h; exact absurd h (by decide)
  have h1 : (c == 101) = false := by rw [beq_eq_false_iff_ne]; intro e; rw [e] at h; exact absurd h (by decide)
  have h2 : (c == 69) = false := by rw [beq_eq_false_iff_ne]; intro e; rw [e] at h; exact absurd h (by decide)
  simp [List.contains, List.elem, h0, h1, h2]

set_option maxRecDepth 100000 in
set_option maxHeartbeats 4000000 in
theorem idxShort3_any (s : ByteArray) (w : World) (h8 : s.size ≤ 8) :
    Calls Tryz.prog 104 #[.string s, .string ⟨#[46, 101, 69]⟩] w fun e w' => e = .returned (.int .i64 (Lib.indexAny s.data.toList [46, 101, 69])) ∧ Below w.heap.size w w' := by
  have h8z : ¬ (8 : Int) < (s.size : Int) := by omega
  have cu := fun w => Tryz.strings_shouldUseASCIISet (s.size : Int) w
  rw [decide_eq_false h8z] at cu
  have hI : IterAt (w.iter s 0) w.heap.size s 0 := World.iter_heap w s 0
  have hB : Below w.heap.size w (w.iter s 0) := (Below.refl _ w).alloc (Nat.le_refl _) _
  have CU := hide cu
  have HI := hide hI
  have HB := hide hB
  clear cu hI hB h8z
  go_enter Tryz.func104, Tryz.ntmps104
  go_wp2_with fail
  refine (unhide CU _).mono ?_
  rintro e w1 ⟨rfl, hw⟩
  subst w1
  go_wp2_with fail
  go_loopg [9, 10] (s.size + 1) (fun g _ _ wx => ∃ i : Nat, s.size < i + g ∧ Hid (IterAt wx w.heap.size s i) ∧ Hid (Below w.heap.size w wx) ∧ Hid (Lib.NoAny s.data.toList [46, 101, 69] i))
  case atStart => exact ⟨0, by omega, HI, HB, hide (Lib.NoAny.zero _ _)⟩
  case round =>
    clear HI HB
    obtain ⟨i, hig, HI, HB, HN⟩ := hrel
    by_cases hi : i < s.size
    · obtain ⟨x, hx⟩ : ∃ x : UInt8, s[i]'hi = x := ⟨_, rfl⟩
      have hxl : s.data.toList[i]? = some x := by rw [← hx]; exact Lib.data_getElem? s i hi
      have hgx : s.get! i = x := get_data s i hxl
      have hlt := (HI.out).lt
      have hle : w.heap.size ≤ w.heap.size := Nat.le_refl _
      by_cases hx128 : x.toNat < 128
      · have hn := fun ty => run_next_at HI.out ty hi
        rw [decode_ascii s i hi (by rw [hx]; exact hx128), hx] at hn
        simp only at hn
        have HI2 := hide (iterTo_at HI.out (i + 1))
        have HB2 := hide (iterTo_below (s := s) HB.out hle (i + 1))
        have ci := fun w => Tryz.strings_IndexRune_ascii ⟨#[46, 101, 69]⟩ (x.toNat : Int) w (by omega) (by omega)
        have hback : ((x.toNat : Int)).toNat.toUInt8 = x := by simp
        rw [hback] at ci
        have hcon := Lib.contains_iff_indexByte [46, 101, 69] x
        have CI := hide ci
        have Hx := hide hxl
        clear ci hxl hx hgx HI HB hback
        cases hin : [(46 : UInt8), 101, 69].contains x
        · rw [hin] at hcon
          have hlt0 : ¬ ((0 : Int) ≤ Lib.indexByte [46, 101, 69] x) := of_decide_eq_false hcon.symm
          have HN2 := hide ((HN.out).succ Hx.out hin)
          clear hcon hin HN
          go_wp2_with fail
          refine (unhide CI _).mono ?_
          rintro e w2 ⟨rfl, hw⟩
          subst w2
          go_wp2_with fail
          cases gk with
          | zero => omega
          | succ g =>
            go_roundg g
            case measure => omega
            case rel => exact ⟨i + 1, by omega, HI2, HB2, HN2⟩
        · rw [hin] at hcon
          have hge : (0 : Int) ≤ Lib.indexByte [46, 101, 69] x := of_decide_eq_true hcon.symm
          have HV := hide (Lib.indexAny_hit HN.out Hx.out hin)
          clear hcon hin HN
          go_wp2_with fail
          refine (unhide CI _).mono ?_
          rintro e w2 ⟨rfl, hw⟩
          subst w2
          go_wp2_with fail
          go_ret
          exact ⟨by rw [HV.out]; rfl, HB2.out⟩
      · have hh : 128 ≤ (s[i]'hi).toNat := by rw [hx]; omega
        obtain ⟨hd1, hd2⟩ := decode_high s i hi hh
        have hd3 := decode_le s i
        have hcont := dec_cont s i (by rw [hgx]; omega)
        have hn := fun ty => run_next_at HI.out ty hi
        have HN2 : Hid (Lib.NoAny s.data.toList [46, 101, 69] (i + (Utf8.decode s i).2)) := hide (fun j b hj hb => by
          rcases Nat.lt_trichotomy j i with h | h | h
          · exact (HN.out) j b h hb
          · subst h
            rw [hxl] at hb
            obtain rfl := Option.some.inj hb
            exact hi_not3 (by omega)
          · have := (hcont j h hj).2
            rw [get_data s j hb] at this
            exact hi_not3 this)
        generalize (Utf8.decode s i).1 = R at *
        generalize (Utf8.decode s i).2 = M at *
        have HI2 := hide (iterTo_at HI.out (i + M))
        have HB2 := hide (iterTo_below (s := s) HB.out hle (i + M))
        have ci := fun w => runeHi3_any (R : Int) w (by omega) (by omega)
        have CI := hide ci
        clear ci hcont HI HB HN hxl hx hgx hh hx128
        go_wp2_with fail
        refine (unhide CI _).mono ?_
        rintro e w2 ⟨rfl, hb⟩
        have HI3 := hide ((HI2.out).below hb)
        have HB3 := hide ((HB2.out).trans (hb.mono (HB2.out).size))
        clear hb HI2 HB2 CI
        go_wp2_with fail
        cases gk with
        | zero => omega
        | succ g =>
          go_roundg g
          case measure => omega
          case rel => exact ⟨i + M, by omega, HI3, HB3, HN2⟩
    · have hn := fun ty => run_next_done HI.out ty hi
      have hv : Lib.indexAny s.data.toList [46, 101, 69] = -1 := Lib.indexAny_none (fun j b hj hb => (HN.out) j b (by simp at hj; omega) hb)
      have HV := hide hv
      clear hv HN
      go_wp2_with fail
      go_ret
      exact ⟨by rw [HV.out]; rfl, HB.out⟩

theorem idxDEE_any (s : ByteArray) (w : World) (hs : s.size ≤ 2000000) :
    Calls Tryz.prog 104 #[.string s, .string ⟨#[46, 101, 69]⟩] w fun e w' => e = .returned (.int .i64 (Lib.indexAny s.data.toList [46, 101, 69])) ∧ Below w.heap.size w w' := by
  by_cases h8 : s.size ≤ 8
  · exact idxShort3_any s w h8
  · refine (Tryz.strings_IndexAny_long (zero_of_info info_set).1 s ⟨#[46, 101, 69]⟩ w (by decide) (by omega) (by omega) (by decide) (ascii_of_all (by decide))).mono fun e w' h => ⟨h.1, ?_⟩
    rw [h.2]
    exact ((Below.refl _ w).alloc (Nat.le_refl _) _).alloc (by simp) _

/-- A number has a point or an exponent. -/
def deeB (s : ByteArray) : Bool := decide (0 ≤ Lib.indexAny s.data.toList [46, 101, 69])

set_option maxRecDepth 100000 in
set_option maxHeartbeats 2000000 in
theorem containsDEE_any (s : ByteArray) (w : World) (hs : s.size ≤ 2000000) :
    Calls Tryz.prog 86 #[.string s, .string ⟨#[46, 101, 69]⟩] w fun e w' => e = .returned (.bool (deeB s)) ∧ Below w.heap.size w w' := by
  have ci := idxDEE_any s w hs
  unfold deeB
  generalize Lib.indexAny s.data.toList [46, 101, 69] = P at *
  have CI := hide ci
  clear ci
  go_enter Tryz.func86, Tryz.ntmps86
  go_wp2_with fail
  refine Calls.mono CI.out ?_
  rintro e w1 ⟨rfl, hb⟩
  go_wp2_with fail
  go_ret
  exact ⟨by simp, hb⟩

end Go.Proofs.YtbnfggnklhfimaaGreatDoor

/- Small letters of texts of any length. -/
namespace Go.Proofs.YtbnfggnklhfimaaGreatDoor
open Go.RowKit

theorem low_one (c : UInt8) : (lowB c).size ≤ 1 := by unfold lowB; exact Nat.le_of_ble_eq_true rfl

theorem eb_len1 {g : Nat → ByteArray} (h : ∀ k, (g k).size ≤ 1) : ∀ n, (eb g n).length ≤ n
  | 0 => by simp [eb]
  | n + 1 => by
    have ih := eb_len1 h n
    have hn := h n
    unfold eb
    simp
    omega

theorem eb_size1 {g : Nat → ByteArray} (h : ∀ k, (g k).size ≤ 1) (n : Nat) : (⟨(eb g n).toArray⟩ : ByteArray).size ≤ n := by
  have := eb_len1 h n
  show (eb g n).toArray.size ≤ n
  simpa using this

set_option maxRecDepth 100000 in
set_option maxHeartbeats 2000000 in
theorem eachByte1_any (s : ByteArray) (F : Nat) (c : Value) (g : Nat → ByteArray) (w : World) (hs : s.size ≤ 140737488351232) (hg : ∀ k, (g k).size ≤ 1)
    (eF : ∀ args w, (callFunc F args).run Tryz.prog w = .ok (.enter F args) w)
    (hc : ∀ (k : Nat) w', k < s.size → Below w.heap.size w w' → Calls Tryz.prog F #[.int .i64 (k : Int), c] w' fun e w'' => e = .returned (.string (g k)) ∧ Below w'.heap.size w' w'') :
    Calls Tryz.prog 38 #[.string s, .func (.func F) #[] #[c]] w fun e w' => e = .returned (.string ⟨(eb g s.size).toArray⟩) ∧ Below w.heap.size w w' := by
  have h0 : Lib.IsBuilder 82 5 w.heap.size w.heap.size (Lib.byteCells []) (w.alloc (.cells #[.pointer none, .slice none 0 0] 82)) := Lib.fresh_isBuilder _ _ w
  have b0 : Below w.heap.size w (w.alloc (.cells #[.pointer none, .slice none 0 0] 82)) := (Below.refl _ w).alloc (Nat.le_refl _) _
  have HC := hide hc
  have HG := hide hg
  clear hc hg
  go_enter Tryz.func38, Tryz.ntmps38
  go_wp2_with fail
  go_loopw [9] (fun i wr => ∃ k : Nat, k ≤ s.size ∧ i = .int .i64 (k : Int) ∧ Lib.IsBuilder 82 5 w.heap.size w.heap.size (Lib.byteCells (eb g k)) wr ∧ Below w.heap.size w wr) (fun i _ => ((s.size : Int) - intOf i).toNat)
  case atStart => exact ⟨0, Nat.zero_le _, by go_num, h0, b0⟩
  case round =>
    clear h0 b0
    obtain ⟨k, hk, rfl, hI, hB⟩ := hrel
    by_cases hlt : k < s.size
    · have hi : (k : Int) < (s.size : Int) := by omega
      have hl := eb_len1 HG.out k
      have hgk := HG.out k
      go_wp2_with fail
      refine (unhide HC k _ hlt hB).mono ?_
      rintro e w1 ⟨rfl, hb1⟩
      have hI1 : Lib.IsBuilder 82 5 w.heap.size w.heap.size (Lib.byteCells (eb g k)) w1 := builder_below hI hb1
      have hB1 := hB.trans (hb1.mono hB.size)
      go_wp2_with fail
      refine (writeStr_any w.heap.size w.heap.size _ (g k) _ hI1 (by rw [Lib.byteCells_length]; omega) hB1.size).mono ?_
      rintro e w2 ⟨rfl, hI2, hb2⟩
      rw [cells_app] at hI2
      have hB2 := hB1.trans hb2
      clear hI hI1 hb1 hb2 hB hB1
      go_wp2_with fail
      go_round
      case rel => exact ⟨k + 1, by omega, by go_num, hI2, hB2⟩
      case measure => simp [intOf]; omega
    · have hi : ¬ (k : Int) < (s.size : Int) := by omega
      obtain rfl : k = s.size := by omega
      go_wp2_with fail
      refine (Tryz.Builder_String_any w.heap.size w.heap.size (eb g s.size) _ hI hB.size).mono ?_
      rintro e w1 ⟨rfl, hb1⟩
      have hB1 := hB.trans hb1
      clear hI hb1 hB
      go_wp2_with fail
      go_ret
      exact ⟨rfl, hB1⟩

set_option maxRecDepth 100000 in
set_option maxHeartbeats 1000000 in
theorem lower1_big (s : ByteArray) (k b : Nat) (w : World) (hk : k < s.size) (hs : s.size ≤ 140737488351232) (h0 : Boxed w b 9 (.string s)) :
    Calls Tryz.prog 73 #[.int .i64 (k : Int), .pointer (some ⟨b, 0, none⟩)] w fun e w' => e = .returned (.string (lowB (bt s k))) ∧ Below w.heap.size w w' := by
  have c0 := h0.cell
  rw [bt_at hk]
  have he := fun w => sl_one hk w
  have hki : (k : Int) < (s.size : Int) := by omega
  by_cases hr : 65 ≤ s[k].toNat ∧ s[k].toNat ≤ 90
  · have h1 : (65 : Int) ≤ (s[k].toNat : Int) := by omega
    have h2 : (s[k].toNat : Int) ≤ 90 := by omega
    have hlo := low_in hr.1 hr.2
    have hrn := rune_low (s[k].toNat + 32) (by omega) (by omega)
    have hca : ((s[k].toNat + 32 : Nat) : Int) = (s[k].toNat : Int) - 65 + 97 := by omega
    rw [hca] at hrn
    have HLO := hide hlo
    clear hr hlo hca he
    go_enter Tryz.func73, Tryz.ntmps73
    go_wp2_with fail
    go_ret
    exact ⟨by rw [HLO.out]; rfl, Below.refl _ _⟩
  · have hlo := low_out hr
    have HLO := hide hlo
    clear hlo
    by_cases h1 : (65 : Int) ≤ (s[k].toNat : Int)
    · have h2 : ¬ (s[k].toNat : Int) ≤ 90 := by omega
      clear hr
      go_enter Tryz.func73, Tryz.ntmps73
      go_wp2_with fail
      go_ret
      exact ⟨by rw [HLO.out]; rfl, Below.refl _ _⟩
    · clear hr
      go_enter Tryz.func73, Tryz.ntmps73
      go_wp2_with fail
      go_ret
      exact ⟨by rw [HLO.out]; rfl, Below.refl _ _⟩

set_option maxRecDepth 100000 in
set_option maxHeartbeats 1000000 in
theorem lower_big (s : ByteArray) (w : World) (hs : s.size ≤ 140737488351232) :
    Calls Tryz.prog 61 #[.string s] w fun e w' => e = .returned (.string (lowV s)) ∧ Below w.heap.size w w' := by
  have hbx := Boxed.new w 9 (.string s)
  have hb0 : Below w.heap.size w (w.alloc (.cells #[.string s] 9)) := (Below.refl _ w).alloc (Nat.le_refl _) _
  have c0 := hbx.cell
  have ce := eachByte1_any s 73 (.pointer (some ⟨w.heap.size, 0, none⟩)) (fun k => lowB (bt s k)) (w.alloc (.cells #[.string s] 9)) hs (fun k => low_one _) (enters_of Tryz.func73 (by kernel_rfl) rfl)
    (fun k w' hk hb => lower1_big s k w.heap.size w' hk hs (boxed_below hbx hb hbx.lt))
  have CE := hide ce
  clear ce hbx
  go_enter Tryz.func61, Tryz.ntmps61
  go_wp2_with fail
  refine (CE.out).mono ?_
  rintro e w1 ⟨rfl, hb1⟩
  have hB := hb0.trans (hb1.mono hb0.size)
  clear hb1 CE c0
  go_wp2_with fail
  go_ret
  exact ⟨rfl, hB⟩

set_option maxRecDepth 100000 in
set_option maxHeartbeats 1000000 in
theorem iis_big (s t : ByteArray) (w : World) (hs : s.size ≤ 140737488351232) (ht : t.size ≤ 140737488351232) :
    Calls Tryz.prog 33 #[.string s, .string t] w fun e w' => e = .returned (.bool ((lowV s).toList == (lowV t).toList)) ∧ Below w.heap.size w w' := by
  have c1 := fun w => lower_big s w hs
  have c2 := fun w => lower_big t w ht
  generalize lowV s = A at *
  generalize lowV t = B at *
  go_enter Tryz.func33, Tryz.ntmps33
  go_wp2_with fail
  refine (c1 _).mono ?_
  rintro e w1 ⟨rfl, hb1⟩
  go_wp2_with fail
  refine (c2 _).mono ?_
  rintro e w2 ⟨rfl, hb2⟩
  have hB := hb1.trans (hb2.mono hb1.size)
  clear hb1 hb2
  go_wp2_with fail
  go_ret
  exact ⟨rfl, hB⟩

set_option maxRecDepth 100000 in
set_option maxHeartbeats 2000000 in
theorem rlower_big (s : ByteArray) (w : World) (hs : s.size ≤ 140737488351232) :
    Calls Tryz.prog 63 #[.string s] w fun e w' => e = .returned (.string (lowV s)) ∧ Below w.heap.size w w' := by
  have hg : ∀ k, ((fun k => lowB (bt s k)) k).size ≤ 1 := fun k => low_one _
  unfold lowV
  have hat : ∀ (k : Nat) (h : k < s.size), (fun k => lowB (bt s k)) k = lowB s[k] := fun k h => by show lowB (bt s k) = _; rw [bt_at h]
  generalize (fun k => lowB (bt s k)) = g at *
  have HAT := hide hat
  have HG := hide hg
  clear hat hg
  go_enter Tryz.func63, Tryz.ntmps63
  go_wp2_with fail
  go_loopw [3, 4] (fun o i wr => ∃ k : Nat, k ≤ s.size ∧ o = .string ⟨(eb g k).toArray⟩ ∧ i = .int .i64 (k : Int) ∧ Below w.heap.size w wr) (fun _ i _ => ((s.size : Int) - intOf i).toNat)
  case atStart => exact ⟨0, Nat.zero_le _, rfl, by go_num, Below.refl _ _⟩
  case round =>
    obtain ⟨k, hk, rfl, rfl, hB⟩ := hrel
    by_cases hlt : k < s.size
    · have hi : (k : Int) < (s.size : Int) := by omega
      have hz := eb_size1 HG.out k
      have hap := eb_app g k
      rw [HAT.out k hlt] at hap
      have hap2 : Hid ((⟨(eb g k).toArray⟩ : ByteArray) ++ lowB s[k] = ⟨(eb g (k + 1)).toArray⟩) := hap
      clear hap
      generalize hE : (⟨(eb g k).toArray⟩ : ByteArray) = E at *
      by_cases hr : 65 ≤ s[k].toNat ∧ s[k].toNat ≤ 90
      · have h1 : (65 : Int) ≤ (s[k].toNat : Int) := by omega
        have h2 : (s[k].toNat : Int) ≤ 90 := by omega
        have hlo := low_in hr.1 hr.2
        have hcv := conv1 wr ((s[k].toNat : Int) - 65 + 97)
        rw [show ((s[k].toNat : Int) - 65 + 97).toNat = s[k].toNat + 32 by omega, ← hlo] at hcv
        have hl1 := low_one s[k]
        generalize lowB s[k] = LB at *
        clear hlo hr hE
        have hB2 : Below w.heap.size w (wr.alloc (.cells #[.int .u8 ((s[k].toNat : Int) - 65 + 97)] 5)) := hB.alloc hB.size _
        go_wp2_with fail
        go_round
        case rel => exact ⟨k + 1, by omega, by rw [hap2.out], by go_num, hB2⟩
        case measure => simp [intOf]; omega
      · have hlo := low_out hr
        have hcv := conv1 wr (s[k].toNat : Int)
        rw [ofNat_back, ← hlo] at hcv
        have hl1 := low_one s[k]
        generalize lowB s[k] = LB at *
        have hB2 : Below w.heap.size w (wr.alloc (.cells #[.int .u8 (s[k].toNat : Int)] 5)) := hB.alloc hB.size _
        by_cases h1 : (65 : Int) ≤ (s[k].toNat : Int)
        · have h2 : ¬ (s[k].toNat : Int) ≤ 90 := by omega
          clear hlo hr hE
          go_wp2_with fail
          go_round
          case rel => exact ⟨k + 1, by omega, by rw [hap2.out], by go_num, hB2⟩
          case measure => simp [intOf]; omega
        · clear hlo hr hE
          go_wp2_with fail
          go_round
          case rel => exact ⟨k + 1, by omega, by rw [hap2.out], by go_num, hB2⟩
          case measure => simp [intOf]; omega
    · have hi : ¬ (k : Int) < (s.size : Int) := by omega
      obtain rfl : k = s.size := by omega
      go_wp2_with fail
      go_ret
      exact ⟨rfl, hB⟩

set_option maxRecDepth 100000 in
set_option maxHeartbeats 1000000 in
theorem ris4_big (s t : ByteArray) (w : World) (hs : s.size ≤ 140737488351232) (ht : t.size ≤ 140737488351232) :
    Calls Tryz.prog 35 #[.string s, .string t] w fun e w' => e = .returned (.bool ((lowV s).toList == (lowV t).toList)) ∧ Below w.heap.size w w' := by
  have c1 := fun w => rlower_big s w hs
  have c2 := fun w => rlower_big t w ht
  generalize lowV s = A at *
  generalize lowV t = B at *
  go_enter Tryz.func35, Tryz.ntmps35
  go_wp2_with fail
  refine (c1 _).mono ?_
  rintro e w1 ⟨rfl, hb1⟩
  go_wp2_with fail
  refine (c2 _).mono ?_
  rintro e w2 ⟨rfl, hb2⟩
  have hB := hb1.trans (hb2.mono hb1.size)
  clear hb1 hb2
  go_wp2_with fail
  go_ret
  exact ⟨rfl, hB⟩

end Go.Proofs.YtbnfggnklhfimaaGreatDoor

/- Keywords and signs, read of words. -/
namespace Go.Proofs.YtbnfggnklhfimaaGreatDoor
open Go.RowKit

/-- Two texts are the same keyword. -/
def isB (s t : ByteArray) : Bool := (lowV s).toList == (lowV t).toList

/-- The place of the first text that is asked for, or -1. -/
def idxP (p : ByteArray → Bool) : List ByteArray → Int
  | [] => -1
  | z :: r => if p z = true then 0 else if idxP p r < 0 then -1 else idxP p r + 1

theorem idxP_none {p : ByteArray → Bool} : ∀ {zs : List ByteArray}, (∀ i, i < zs.length → p (zs.getD i ByteArray.empty) = false) → idxP p zs = -1
  | [], _ => rfl
  | z :: r, h => by
    have h0 := h 0 (by simp)
    have ih := idxP_none (p := p) (zs := r) (fun i hi => by have := h (i + 1) (by simpa using hi); simpa using this)
    simp only [List.getD_cons_zero] at h0
    unfold idxP
    rw [if_neg (by rw [h0]; simp), if_pos (by rw [ih]; decide)]

theorem idxP_hit {p : ByteArray → Bool} : ∀ {zs : List ByteArray} {j : Nat}, (∀ i, i < j → p (zs.getD i ByteArray.empty) = false) → j < zs.length → p (zs.getD j ByteArray.empty) = true → idxP p zs = (j : Int)
  | [], j, _, hj, _ => absurd hj (by simp)
  | z :: r, 0, _, _, hp => by
    simp only [List.getD_cons_zero] at hp
    unfold idxP
    rw [if_pos hp]; rfl
  | z :: r, j + 1, h, hj, hp => by
    have h0 := h 0 (by omega)
    simp only [List.getD_cons_zero] at h0
    have ih := idxP_hit (p := p) (zs := r) (j := j) (fun i hi => by have := h (i + 1) (by omega); simpa using this) (by simpa using hj) (by simpa using hp)
    unfold idxP
    rw [if_neg (by rw [h0]; simp), if_neg (by rw [ih]; omega), ih]; simp

theorem idxP_bd (p : ByteArray → Bool) : ∀ zs : List ByteArray, -1 ≤ idxP p zs ∧ idxP p zs < zs.length
  | [] => by simp [idxP]
  | z :: r => by
    have ih := idxP_bd p r
    unfold idxP
    split
    · exact ⟨by decide, by simp⟩
    · split
      · exact ⟨by decide, by simp; omega⟩
      · simp; omega

theorem idxP_false {p : ByteArray → Bool} (zs : List ByteArray) (h : ∀ z, p z = false) : idxP p zs = -1 := idxP_none fun _ _ => h _

/-- The keyword that stands at a place, and the place behind it. -/
def kwP (l : List Tk) (at_ : Int) (z : ByteArray) : Bool := decide ((tkV l at_).1.1 = 1) && isB (tkV l at_).2.1 z

def keywV (l : List Tk) (at_ : Int) (zs : List ByteArray) : Int × Int := if idxP (kwP l at_) zs < 0 then (-1, at_) else (idxP (kwP l at_) zs, at_ + 1)

/-- A sign stands at a place. -/
def signV (l : List Tk) (at_ : Int) (s : ByteArray) : Bool := decide ((tkV l at_).1.1 = 7) && ((tkV l at_).2.1.toList == s.toList)

theorem tk_in {l : List Tk} {i : Int} (h : ¬ (tkV l i).1.1 = 8) : 0 ≤ i ∧ i < l.length := by
  unfold tkV at h
  rcases Int.lt_or_le i 0 with hn | hn
  · rw [if_pos hn] at h; exact absurd rfl h
  · refine ⟨hn, ?_⟩
    rcases Int.lt_or_le i l.length with hl | hl
    · exact hl
    · rw [if_neg (by omega), List.getD, List.getElem?_eq_none (by omega)] at h
      exact absurd rfl h

theorem TxAt.below {w w' : World} {b : Nat} {zs : List ByteArray} (h : TxAt w b zs) (hb : Below w.heap.size w w') (hl : b < w.heap.size) : TxAt w' b zs := fun j hj => (hb.cell (p := ⟨b, 0 + j, none⟩) hl).trans (h j hj)

set_option maxRecDepth 100000 in
set_option maxHeartbeats 2000000 in
theorem kwf_any (k at_ : Int) (tx nm s : ByteArray) (b : Nat) (w : World) (h : TkAt b k at_ tx nm w) (ht : tx.size ≤ 2000000) (hs : s.size ≤ 140737488351232) :
    Calls Tryz.prog 54 #[.string s, .pointer (some ⟨b, 0, none⟩)] w fun e w' => e = .returned (.bool (decide (k = 1) && isB tx s)) ∧ Below w.heap.size w w' := by
  have c0 := h.c0
  have c2 := h.c2
  have ci := iis_big tx s w (by omega) hs
  unfold isB
  generalize ((lowV tx).toList == (lowV s).toList) = q at *
  have CI := hide ci
  clear ci h
  rcases eqk k 1 with ⟨h1, h1b⟩ | ⟨h1, h1b⟩
  · subst h1
    go_enter Tryz.func54, Tryz.ntmps54
    go_wp2_with fail
    refine Calls.mono CI.out ?_
    rintro e w1 ⟨rfl, hb⟩
    go_wp2_with fail
    go_ret
    exact ⟨by simp, hb⟩
  · have hd : decide (k = 1) = false := by simp [h1]
    rw [hd]
    clear h1 hd CI
    go_enter Tryz.func54, Tryz.ntmps54
    go_wp2_with fail
    go_ret
    exact ⟨rfl, Below.refl _ _⟩

set_option maxRecDepth 100000 in
set_option maxHeartbeats 4000000 in
theorem indexFunc_any (zs : List ByteArray) (b n F : Nat) (c : Value) (p : ByteArray → Bool) (w : World) (ht : TxAt w b zs) (hlt : b < w.heap.size) (hn : n = zs.length) (hz : zs.length ≤ 1000)
    (eF : ∀ args w, (callFunc F args).run Tryz.prog w = .ok (.enter F args) w)
    (hc : ∀ (j : Nat) w', j < zs.length → Below w.heap.size w w' → Calls Tryz.prog F #[.string (zs.getD j ByteArray.empty), c] w' fun e w'' => e = .returned (.bool (p (zs.getD j ByteArray.empty))) ∧ Below w'.heap.size w' w'') :
    Calls Tryz.prog 53 #[.slice (some ⟨b, 0, none⟩) n n, .func (.func F) #[] #[c]] w fun e w' => e = .returned (.int .i64 (idxP p zs)) ∧ Below w.heap.size w w' := by
  subst hn
  have HC := hide hc
  have HT := hide ht
  have hb0 := hide (Below.refl w.heap.size w)
  clear hc ht
  go_enter Tryz.func53, Tryz.ntmps53
  go_wp2_with fail
  go_loopw [8] (fun i wr => ∃ k : Nat, k ≤ zs.length ∧ i = .int .i64 (k : Int) ∧ Hid (∀ i, i < k → p (zs.getD i ByteArray.empty) = false) ∧ Hid (Below w.heap.size w wr)) (fun i _ => ((zs.length : Int) - intOf i).toNat)
  case atStart => exact ⟨0, Nat.zero_le _, by go_num, hide (fun i hi => absurd hi (by omega)), hb0⟩
  case round =>
    clear hb0
    obtain ⟨k, hk, rfl, HN, HB⟩ := hrel
    by_cases hlk : k < zs.length
    · have hi : (k : Int) < (zs.length : Int) := by omega
      have hcell : wr.cell? ⟨b, k, none⟩ = some (.string (zs.getD k ByteArray.empty)) := by have := ((HB.out).cell (p := ⟨b, 0 + k, none⟩) hlt).trans ((HT.out) k hlk); rwa [Nat.zero_add] at this
      have cc := unhide HC k _ hlk HB.out
      cases hp : p (zs.getD k ByteArray.empty)
      · have HN2 : Hid (∀ i, i < k + 1 → p (zs.getD i ByteArray.empty) = false) := hide (fun i hi => by
          rcases Nat.lt_or_ge i k with h | h
          · exact (HN.out) i h
          · obtain rfl : i = k := by omega
            exact hp)
        rw [hp] at cc
        generalize zs.getD k ByteArray.empty = z at *
        have CC := hide cc
        clear cc hp HN
        go_wp2_with fail
        refine Calls.mono CC.out ?_
        rintro e w1 ⟨rfl, hb1⟩
        have HB1 := hide ((HB.out).trans (hb1.mono (HB.out).size))
        clear hb1 CC HB hcell
        go_wp2_with fail
        go_round
        case rel => exact ⟨k + 1, by omega, by go_num, HN2, HB1⟩
        case measure => simp [intOf]; omega
      · have HV := hide (idxP_hit HN.out hlk hp)
        rw [hp] at cc
        generalize zs.getD k ByteArray.empty = z at *
        have CC := hide cc
        clear cc hp HN
        go_wp2_with fail
        refine Calls.mono CC.out ?_
        rintro e w1 ⟨rfl, hb1⟩
        have HB1 := hide ((HB.out).trans (hb1.mono (HB.out).size))
        clear hb1 CC HB hcell
        go_wp2_with fail
        go_ret
        exact ⟨by rw [HV.out] <;> rfl, HB1.out⟩
    · have hi : ¬ (k : Int) < (zs.length : Int) := by omega
      obtain rfl : k = zs.length := by omega
      have HV := hide (idxP_none HN.out)
      go_wp2_with fail
      go_ret
      exact ⟨by rw [HV.out] <;> rfl, HB.out⟩

set_option maxRecDepth 100000 in
set_option maxHeartbeats 4000000 in
theorem keyword_any (l : List Tk) (at_ : Int) (zs : List ByteArray) (b n : Nat) (v : Value) (w : World) (h : Tks w v l) (hl : Short l) (ht : TxAt w b zs) (hlt : b < w.heap.size) (hn : n = zs.length) (hz : zs.length ≤ 1000) (hzs : ∀ j, j < zs.length → (zs.getD j ByteArray.empty).size ≤ 140737488351232) :
    Calls Tryz.prog 28 #[v, .int .i64 at_, .slice (some ⟨b, 0, none⟩) n n] w fun e w' => e = .returned (.tuple #[.int .i64 (keywV l at_ zs).1, .int .i64 (keywV l at_ zs).2]) ∧ Below w.heap.size w w' := by
  have cw := wordAt_any l at_ v w h hl.1
  have hsz := (hl.at at_).1
  have hkv : keywV l at_ zs = if idxP (kwP l at_) zs < 0 then (-1, at_) else (idxP (kwP l at_) zs, at_ + 1) := rfl
  have hin : ¬ idxP (kwP l at_) zs < 0 → 0 ≤ at_ ∧ at_ < l.length := fun h0 => tk_in (fun h8 => h0 (by
    rw [idxP_false zs (fun z => by unfold kwP; rw [h8]; rfl)]; decide))
  have hbd := idxP_bd (kwP l at_) zs
  have hll := hl.1
  obtain ⟨ao, m, cap, rfl⟩ : ∃ ao m cap, v = .slice ao m cap := by
    rcases h.val with ⟨_, ao, cap, h⟩ | ⟨b, off, cap, h, _⟩
    · exact ⟨_, _, _, h⟩
    · exact ⟨_, _, _, h⟩
  obtain ⟨k, a, tx, nm, htk⟩ : ∃ k a tx nm, tkV l at_ = ((k, a), tx, nm) := ⟨_, _, _, _, rfl⟩
  have hp : kwP l at_ = fun z => decide (k = 1) && isB tx z := by funext z; unfold kwP; rw [htk]
  rw [htk] at cw hsz
  have ci : ∀ w1, Below w.heap.size w w1 → Calls Tryz.prog 53 #[.slice (some ⟨b, 0, none⟩) n n, .func (.func 54) #[] #[.pointer (some ⟨w1.heap.size, 0, none⟩)]] (w1.alloc (.cells #[.int .i64 k, .int .i64 a, .string tx, .string nm] 72)) fun e w' => e = .returned (.int .i64 (idxP (kwP l at_) zs)) ∧ Below (w1.alloc (.cells #[.int .i64 k, .int .i64 a, .string tx, .string nm] 72)).heap.size (w1.alloc (.cells #[.int .i64 k, .int .i64 a, .string tx, .string nm] 72)) w' := by
    intro w1 hb
    have hb2 := hb.alloc hb.size (.cells #[.int .i64 k, .int .i64 a, .string tx, .string nm] 72)
    have hT := TkAt.new w1 k a tx nm
    refine indexFunc_any zs b n 54 (.pointer (some ⟨w1.heap.size, 0, none⟩)) (kwP l at_) _ (ht.below hb2 hlt) (Nat.lt_of_lt_of_le hlt hb2.size) hn hz (enters_of Tryz.func54 (by kernel_rfl) rfl) (fun j w' hj hb' => ?_)
    rw [hp]
    exact kwf_any k a tx nm _ w1.heap.size w' (hT.below hb' hT.lt) hsz (hzs j hj)
  generalize idxP (kwP l at_) zs = J at *
  have CW := hide cw
  have CI := hide ci
  have HKV := hide hkv
  have HIN := hide hin
  unfold tkW tkA at CW
  clear cw ci hkv hin h ht hl htk hp hsz hz hzs hbd
  clear hn
  go_enter Tryz.func28, Tryz.ntmps28
  go_wp2_with fail
  refine Calls.mono CW.out ?_
  rintro e w1 ⟨rfl, hb1⟩
  have c2 := unhide CI w1 hb1
  have HB1 := hide (hb1.alloc hb1.size (.cells #[.int .i64 k, .int .i64 a, .string tx, .string nm] 72))
  have C2 := hide c2
  clear CI c2 hb1 CW
  go_wp2_with fail
  refine Calls.mono C2.out ?_
  rintro e w2 ⟨rfl, hb2⟩
  have HB2 := hide ((HB1.out).trans (hb2.mono (HB1.out).size))
  clear hb2 C2 HB1
  by_cases hj : J < 0
  · have hv := HKV.out
    rw [if_pos hj] at hv
    have HV := hide hv
    clear hv HKV HIN
    go_wp2_with fail
    go_ret2
    exact ⟨by rw [HV.out] <;> rfl, HB2.out⟩
  · have hv := HKV.out
    rw [if_neg hj] at hv
    have hi := (HIN.out) (by omega)
    have hi1 : at_ + 1 < 9223372036854775807 := by omega
    have hi0 : 0 ≤ at_ := hi.1
    have HV := hide hv
    clear hv HKV HIN hi
    go_wp2_with fail
    go_ret2
    exact ⟨by rw [HV.out] <;> rfl, HB2.out⟩

set_option maxRecDepth 100000 in
set_option maxHeartbeats 4000000 in
theorem sign_any (l : List Tk) (at_ : Int) (s : ByteArray) (v : Value) (w : World) (h : Tks w v l) (hl : Short l) :
    Calls Tryz.prog 60 #[v, .int .i64 at_, .string s] w fun e w' => e = .returned (.bool (signV l at_ s)) ∧ Below w.heap.size w w' := by
  have cw := wordAt_any l at_ v w h hl.1
  obtain ⟨ao, m, cap, rfl⟩ : ∃ ao m cap, v = .slice ao m cap := by
    rcases h.val with ⟨_, ao, cap, h⟩ | ⟨b, off, cap, h, _⟩
    · exact ⟨_, _, _, h⟩
    · exact ⟨_, _, _, h⟩
  unfold signV
  obtain ⟨k, a, tx, nm, htk⟩ : ∃ k a tx nm, tkV l at_ = ((k, a), tx, nm) := ⟨_, _, _, _, rfl⟩
  rw [htk] at cw ⊢
  have CW := hide cw
  unfold tkW tkA at CW
  clear cw h hl htk
  rcases eqk k 7 with ⟨h1, h1b⟩ | ⟨h1, h1b⟩
  · subst h1
    go_enter Tryz.func60, Tryz.ntmps60
    go_wp2_with fail
    refine Calls.mono CW.out ?_
    rintro e w1 ⟨rfl, hb1⟩
    have hT := TkAt.new w1 7 a tx nm
    have t0 := hT.c0
    have t2 := hT.c2
    have HB1 := hide (hb1.alloc hb1.size (.cells #[.int .i64 7, .int .i64 a, .string tx, .string nm] 72))
    clear hb1 CW hT
    go_wp2_with fail
    go_ret
    exact ⟨by simp, HB1.out⟩
  · have hd : decide (k = 7) = false := by simp [h1]
    rw [hd]
    go_enter Tryz.func60, Tryz.ntmps60
    go_wp2_with fail
    refine Calls.mono CW.out ?_
    rintro e w1 ⟨rfl, hb1⟩
    have hT := TkAt.new w1 k a tx nm
    have t0 := hT.c0
    have t2 := hT.c2
    have HB1 := hide (hb1.alloc hb1.size (.cells #[.int .i64 k, .int .i64 a, .string tx, .string nm] 72))
    clear hb1 CW hT h1 hd
    go_wp2_with fail
    go_ret
    exact ⟨by simp, HB1.out⟩

end Go.Proofs.YtbnfggnklhfimaaGreatDoor

/- A whole number, read of words. -/
namespace Go.Proofs.YtbnfggnklhfimaaGreatDoor
open Go.RowKit

/-- The whole number at a place, the place behind it, and the error. -/
def intV (l : List Tk) (at_ : Int) : Int × Int × Int :=
  if ¬ (tkV l at_).1.1 = 3 then (0, at_, 50) else if deeB (tkV l at_).2.2 = true then (0, at_, 50)
  else if (scalV (tkV l at_).2.2 1).2 = 0 then ((scalV (tkV l at_).2.2 1).1, at_ + 1, 0) else (0, at_, (scalV (tkV l at_).2.2 1).2)

set_option maxRecDepth 100000 in
set_option maxHeartbeats 4000000 in
theorem integer_any (l : List Tk) (at_ : Int) (v : Value) (w : World) (h : Tks w v l) (hl : Short l) :
    Calls Tryz.prog 72 #[v, .int .i64 at_] w fun e w' => e = .returned (.tuple #[.int .i64 (intV l at_).1, .int .i64 (intV l at_).2.1, .int .i64 (intV l at_).2.2]) ∧ Below w.heap.size w w' := by
  have cw := wordAt_any l at_ v w h hl.1
  have hsz := (hl.at at_).2
  have hll := hl.1
  have hiv : intV l at_ = if ¬ (tkV l at_).1.1 = 3 then (0, at_, 50) else if deeB (tkV l at_).2.2 = true then (0, at_, 50) else if (scalV (tkV l at_).2.2 1).2 = 0 then ((scalV (tkV l at_).2.2 1).1, at_ + 1, 0) else (0, at_, (scalV (tkV l at_).2.2 1).2) := rfl
  have hin : (tkV l at_).1.1 = 3 → 0 ≤ at_ ∧ at_ < l.length := fun h3 => tk_in (by rw [h3]; decide)
  obtain ⟨ao, m, cap, rfl⟩ : ∃ ao m cap, v = .slice ao m cap := by
    rcases h.val with ⟨_, ao, cap, h⟩ | ⟨b, off, cap, h, _⟩
    · exact ⟨_, _, _, h⟩
    · exact ⟨_, _, _, h⟩
  obtain ⟨k, a, tx, nm, htk⟩ : ∃ k a tx nm, tkV l at_ = ((k, a), tx, nm) := ⟨_, _, _, _, rfl⟩
  rw [htk] at cw hsz hiv hin
  simp only at hsz hiv hin
  have cd := fun w => containsDEE_any nm w hsz
  have cs := fun w => scaled_any nm 1 w (by omega)
  generalize deeB nm = D at *
  generalize (scalV nm 1).1 = n at *
  generalize (scalV nm 1).2 = er at *
  have CW := hide cw
  have CD := hide cd
  have CS := hide cs
  have HIV := hide hiv
  unfold tkW tkA at CW
  clear cw h hl htk hiv cd cs
  rcases eqk k 3 with ⟨h1, h1b⟩ | ⟨h1, h1b⟩
  · subst h1
    have hi := hin rfl
    have hi1 : at_ + 1 < 9223372036854775807 := by omega
    have hi0 : 0 ≤ at_ := hi.1
    clear hin hi
    go_enter Tryz.func72, Tryz.ntmps72
    go_wp2_with fail
    refine Calls.mono CW.out ?_
    rintro e w1 ⟨rfl, hb1⟩
    have hT := TkAt.new w1 3 a tx nm
    have t0 := hT.c0
    have t3 := hT.c3
    have HT := hide hT
    have HB1 := hide (hb1.alloc hb1.size (.cells #[.int .i64 3, .int .i64 a, .string tx, .string nm] 72))
    clear hb1 CW hT
    go_wp2_with fail
    refine Calls.mono (unhide CD _) ?_
    rintro e w2 ⟨rfl, hb2⟩
    have hT2 := (HT.out).below hb2 (HT.out).lt
    have u0 := hT2.c0
    have u3 := hT2.c3
    have HB2 := hide ((HB1.out).trans (hb2.mono (HB1.out).size))
    clear hb2 HB1 HT t0 t3 hT2 CD
    cases D
    · have hv := HIV.out
      rw [if_neg (by simp), if_neg (by simp)] at hv
      have HV := hide hv
      clear hv HIV
      go_wp2_with fail
      refine Calls.mono (unhide CS _) ?_
      rintro e w3 ⟨rfl, hb3⟩
      have HB3 := hide ((HB2.out).trans (hb3.mono (HB2.out).size))
      clear hb3 HB2 CS u0 u3
      rcases eqk er 0 with ⟨h0, h0b⟩ | ⟨h0, h0b⟩
      · subst h0
        have hv := HV.out
        rw [if_pos rfl] at hv
        have HV2 := hide hv
        clear hv HV h0b
        go_wp2_with fail
        go_ret3
        exact ⟨by rw [HV2.out] <;> rfl, HB3.out⟩
      · have hv := HV.out
        rw [if_neg h0] at hv
        have HV2 := hide hv
        have hn0 : (er != 0) = true := by rw [bne, h0b]; rfl
        clear hv HV h0b h0
        go_wp2_with fail
        go_ret3
        exact ⟨by rw [HV2.out] <;> rfl, HB3.out⟩
    · have hv := HIV.out
      rw [if_neg (by simp), if_pos rfl] at hv
      have HV := hide hv
      clear hv HIV
      go_wp2_with fail
      go_ret3
      exact ⟨by rw [HV.out] <;> rfl, HB2.out⟩
  · have hv := HIV.out
    rw [if_pos h1] at hv
    have HV := hide hv
    have hn1 : (k != 3) = true := by rw [bne, h1b]; rfl
    clear hv HIV hin h1 h1b CD CS
    go_enter Tryz.func72, Tryz.ntmps72
    go_wp2_with fail
    refine Calls.mono CW.out ?_
    rintro e w1 ⟨rfl, hb1⟩
    have hT := TkAt.new w1 k a tx nm
    have t0 := hT.c0
    have HB1 := hide (hb1.alloc hb1.size (.cells #[.int .i64 k, .int .i64 a, .string tx, .string nm] 72))
    clear hb1 CW hT
    go_wp2_with fail
    go_ret3
    exact ⟨by rw [HV.out] <;> rfl, HB1.out⟩

end Go.Proofs.YtbnfggnklhfimaaGreatDoor

/- The document's own reading of words. -/
namespace Go.Proofs.YtbnfggnklhfimaaGreatDoor
open Go.RowKit

/-- A text is one of some. -/
theorem any_none {p : ByteArray → Bool} : ∀ {zs : List ByteArray}, (∀ i, i < zs.length → p (zs.getD i ByteArray.empty) = false) → zs.any p = false
  | [], _ => rfl
  | z :: r, h => by
    have h0 := h 0 (by simp)
    have ih := any_none (p := p) (zs := r) (fun i hi => by have := h (i + 1) (by simpa using hi); simpa using this)
    simp only [List.getD_cons_zero] at h0
    simp [h0, ih]

theorem any_hit {p : ByteArray → Bool} {zs : List ByteArray} {j : Nat} (hj : j < zs.length) (hp : p (zs.getD j ByteArray.empty) = true) : zs.any p = true := by
  rw [List.any_eq_true]
  refine ⟨zs.getD j ByteArray.empty, ?_, hp⟩
  rw [List.getD, List.getElem?_eq_getElem hj]
  exact List.getElem_mem hj

/-- The document's own way to tell a number that is 0. -/
def noughtL : List UInt8 → Bool
  | [] => true
  | c :: r => if c == 101 || c == 69 then true else if c == 43 || c == 45 || c == 46 || c == 48 then noughtL r else false

theorem noughtL_is : ∀ l : List UInt8, noughtL l = ((l.takeWhile fun c => !(c == 101 || c == 69)).all fun c => c == 43 || c == 45 || c == 46 || c == 48)
  | [] => rfl
  | c :: r => by
    have ih := noughtL_is r
    unfold noughtL
    cases h1 : (c == 101 || c == 69)
    · cases h2 : (c == 43 || c == 45 || c == 46 || c == 48)
      · rw [List.takeWhile_cons, h1]; simp [h2]
      · rw [List.takeWhile_cons, h1]; simp [h2, ih]
    · rw [List.takeWhile_cons, h1]; simp

theorem eq8 (c : UInt8) (n : Nat) (hn : n < 256) : (c == UInt8.ofNat n) = decide ((c.toNat : Int) = (n : Int)) := by
  rw [Bool.eq_iff_iff, beq_iff_eq, decide_eq_true_iff]
  constructor
  · intro h; subst h; simp; omega
  · intro h
    apply UInt8.toNat_inj.1
    simp
    omega

end Go.Proofs.YtbnfggnklhfimaaGreatDoor

/- The document's own whole numbers, keywords and signs. -/
namespace Go.Proofs.YtbnfggnklhfimaaGreatDoor
open Go.RowKit

/-- What the document's Keyword keeps. -/
structure KySt (w wr : World) (T b : Nat) (k at_ : Int) (tx nm : ByteArray) (zs : List ByteArray) : Prop where
  tk : TkAt T k at_ tx nm wr
  txs : TxAt wr b zs
  lt : b < wr.heap.size
  bel : Below w.heap.size w wr

theorem KySt.next {w w1 w2 : World} {T b : Nat} {k at_ : Int} {tx nm : ByteArray} {zs : List ByteArray} (h : KySt w w1 T b k at_ tx nm zs) (hb : Below w1.heap.size w1 w2) : KySt w w2 T b k at_ tx nm zs :=
  ⟨h.tk.below hb h.tk.lt, h.txs.below hb h.lt, Nat.lt_of_lt_of_le h.lt hb.size, h.bel.trans (hb.mono h.bel.size)⟩

theorem KySt.cell {w wr : World} {T b : Nat} {k at_ : Int} {tx nm : ByteArray} {zs : List ByteArray} (h : KySt w wr T b k at_ tx nm zs) (j : Nat) (hj : j < zs.length) : wr.cell? ⟨b, j, none⟩ = some (.string (zs.getD j ByteArray.empty)) := by
  have := h.txs j hj
  rwa [Nat.zero_add] at this

theorem not_dee {c : UInt8} (h0 : ¬ (c.toNat : Int) = 46) (h1 : ¬ (c.toNat : Int) = 101) (h2 : ¬ (c.toNat : Int) = 69) : [(46 : UInt8), 101, 69].contains c = false := by
  have e0 : (c == 46) = false := by rw [beq_eq_false_iff_ne]; intro e; rw [e] at h0; exact h0 rfl
  have e1 : (c == 101) = false := by rw [beq_eq_false_iff_ne]; intro e; rw [e] at h1; exact h1 rfl
  have e2 : (c == 69) = false := by rw [beq_eq_false_iff_ne]; intro e; rw [e] at h2; exact h2 rfl
  simp [List.contains, List.elem, e0, e1, e2]

theorem is_dee {c : UInt8} (h : (c.toNat : Int) = 46 ∨ (c.toNat : Int) = 101 ∨ (c.toNat : Int) = 69) : [(46 : UInt8), 101, 69].contains c = true := by
  have : c = 46 ∨ c = 101 ∨ c = 69 := by
    rcases h with h | h | h
    · exact .inl (UInt8.toNat_inj.1 (by simp; omega))
    · exact .inr (.inl (UInt8.toNat_inj.1 (by simp; omega)))
    · exact .inr (.inr (UInt8.toNat_inj.1 (by simp; omega)))
  rcases this with rfl | rfl | rfl <;> decide

theorem dee_hit {s : ByteArray} {k : Nat} (hk : k < s.size) (hn : Lib.NoAny s.data.toList [46, 101, 69] k) (h : (s[k].toNat : Int) = 46 ∨ (s[k].toNat : Int) = 101 ∨ (s[k].toNat : Int) = 69) : deeB s = true := by
  unfold deeB
  rw [Lib.indexAny_hit hn (Lib.data_getElem? s k hk) (is_dee h)]
  simp

theorem dee_none {s : ByteArray} (hn : Lib.NoAny s.data.toList [46, 101, 69] s.size) : deeB s = false := by
  unfold deeB
  rw [Lib.indexAny_none (fun j b hj hb => hn j b (by simp at hj; omega) hb)]
  decide

end Go.Proofs.YtbnfggnklhfimaaGreatDoor

/- Lines: what is read of words. -/
namespace Go.Proofs.YtbnfggnklhfimaaGreatDoor
open Go.RowKit

/-- A line: its kind, its number, its name. -/
abbrev LnD := (Int × Int) × ByteArray

def lnA (x : LnD) : Value := .agg #[.int .i64 x.1.1, .int .i64 x.1.2, .string x.2]

def noLn : LnD := ((0, 0), ⟨#[]⟩)

/-- A line in a box. -/
def LnAt (w : World) (b : Nat) (x : LnD) : Prop := w.heap[b]? = some (.cells #[.int .i64 x.1.1, .int .i64 x.1.2, .string x.2] 23 (0, 0))

theorem LnAt.lt {w : World} {b : Nat} {x : LnD} (h : LnAt w b x) : b < w.heap.size := (Array.getElem?_eq_some_iff.1 h).1

theorem LnAt.c0 {w : World} {b : Nat} {x : LnD} (h : LnAt w b x) : w.cell? ⟨b, 0, none⟩ = some (.int .i64 x.1.1) := by simp [World.cell?, show w.heap[b]? = _ from h]

theorem LnAt.c1 {w : World} {b : Nat} {x : LnD} (h : LnAt w b x) : w.cell? ⟨b, 1, none⟩ = some (.int .i64 x.1.2) := by simp [World.cell?, show w.heap[b]? = _ from h]

theorem LnAt.c2 {w : World} {b : Nat} {x : LnD} (h : LnAt w b x) : w.cell? ⟨b, 2, none⟩ = some (.string x.2) := by simp [World.cell?, show w.heap[b]? = _ from h]

theorem LnAt.z {w : World} {b : Nat} {x : LnD} (h : LnAt w b x) (i : Nat) : w.frozen? ⟨b, i, none⟩ = false := Lib.frozen_of_heap h i

theorem LnAt.below {w w' : World} {B b : Nat} {x : LnD} (h : LnAt w b x) (hb : Below B w w') (hB : b < B) : LnAt w' b x := (hb.block b hB).trans h

theorem LnAt.new (w : World) (k n : Int) (s : ByteArray) : LnAt (w.alloc (.cells #[.int .i64 k, .int .i64 n, .string s] 23)) w.heap.size ((k, n), s) := heap_alloc_new w _

theorem below_three {B b : Nat} {w w' : World} (h : Below B w w') (hb : B ≤ b) (x y z : Value) : Below B w (((w'.setCell ⟨b, 0, none⟩ x).setCell ⟨b, 1, none⟩ y).setCell ⟨b, 2, none⟩ z) := ((h.setCell (p := ⟨b, 0, none⟩) hb x).setCell (p := ⟨b, 1, none⟩) hb y).setCell (p := ⟨b, 2, none⟩) hb z

def spanB : ByteArray := ⟨#[115, 112, 97, 110]⟩

/-- What a word is for a line: 1 a number, 2 a name, 3 span, 0 nothing. -/
def kindL (l : List Tk) (i : Int) : Int :=
  if (tkV l i).1.1 = 1 then if isB (tkV l i).2.1 spanB = true then 3 else if customV (tkV l i).2.1 = true then 2 else 0
  else if (intV l i).2.2 = 0 ∨ (intV l i).2.2 = 10 then 1 else 0

theorem int_err (l : List Tk) (i : Int) : (intV l i).2.2 = 0 ∨ (intV l i).2.2 = 10 → (tkV l i).1.1 = 3 := by
  unfold intV
  split
  · intro h; simp at h
  · rename_i h
    intro _
    omega

theorem kindL_in {l : List Tk} {i : Int} (h : ¬ kindL l i = 0) : 0 ≤ i ∧ i < l.length := by
  refine tk_in (fun h8 => h ?_)
  unfold kindL
  rw [if_neg (by rw [h8]; decide), if_neg (fun hh => by have := int_err l i hh; rw [h8] at this; exact absurd this (by decide))]

/-- The words that belong to a line: where the number, the name and span stand (-1: nowhere), and the place behind them. -/
def scanL (l : List Tk) (at_ : Int) : Nat → Int → Int → Int → Int → Int × Int × Int × Int
  | 0, nu, na, sp, k => (nu, na, sp, k)
  | f + 1, nu, na, sp, k =>
    if kindL l k = 1 ∧ nu < 0 then scanL l at_ f k na sp (k + 1)
    else if kindL l k = 2 ∧ na < 0 then scanL l at_ f nu k sp (k + 1)
    else if kindL l k = 3 ∧ sp < 0 then if at_ < k then (nu, na, k, k + 1) else scanL l at_ f nu na k (k + 1)
    else (nu, na, sp, k)

def nameOf (l : List Tk) (na : Int) : ByteArray := if 0 ≤ na then (tkV l na).2.1 else ⟨#[]⟩

/-- The line that such words are. -/
def lineOf (l : List Tk) (at_ : Int) (r : Int × Int × Int × Int) : LnD × Int × Int :=
  if r.2.2.2 = at_ then (noLn, at_, 50)
  else if 0 ≤ r.1 then
    if ¬ (intV l r.1).2.2 = 0 ∨ 10000 < (intV l r.1).1 ∨ (intV l r.1).1 < -10000 then (noLn, r.1, 52)
    else if (intV l r.1).1 = 0 ∨ ((intV l r.1).1 < 0 ∧ 0 ≤ r.2.2.1) then (noLn, r.1, 50)
    else if 0 ≤ r.2.2.1 then (((4, (intV l r.1).1), nameOf l r.2.1), r.2.2.2, 0) else (((2, (intV l r.1).1), nameOf l r.2.1), r.2.2.2, 0)
  else if 0 ≤ r.2.2.1 then if r.2.1 < 0 then (noLn, r.2.2.2, 50) else (((4, 1), nameOf l r.2.1), r.2.2.2, 0)
  else (((3, 0), nameOf l r.2.1), r.2.2.2, 0)

def autoK : List ByteArray := [⟨#[97, 117, 116, 111]⟩]

def wideK : List ByteArray := [⟨#[105, 110, 104, 101, 114, 105, 116]⟩, ⟨#[105, 110, 105, 116, 105, 97, 108]⟩, ⟨#[117, 110, 115, 101, 116]⟩, ⟨#[114, 101, 118, 101, 114, 116]⟩]

/-- A line read, the place behind it, and the error. -/
def lineR (l : List Tk) (at_ : Int) : LnD × Int × Int :=
  if 0 ≤ (keywV l at_ autoK).1 then (((1, 0), ⟨#[]⟩), at_ + 1, 0)
  else if 0 ≤ (keywV l at_ wideK).1 then (noLn, at_, 51)
  else lineOf l at_ (scanL l at_ 4 (-1) (-1) (-1) at_)

def lineE (r : LnD × Int × Int) : Value := .tuple #[lnA r.1, .int .i64 r.2.1, .int .i64 r.2.2]

theorem keyw_pair (l : List Tk) (i : Int) (zs : List ByteArray) : (0 ≤ (keywV l i zs).1 ∧ (keywV l i zs).2 = i + 1 ∧ 0 ≤ i ∧ i < l.length) ∨ ((keywV l i zs).1 = -1 ∧ (keywV l i zs).2 = i) := by
  unfold keywV
  by_cases h : idxP (kwP l i) zs < 0
  · rw [if_pos h]; exact .inr ⟨rfl, rfl⟩
  · rw [if_neg h]
    have hi : 0 ≤ i ∧ i < l.length := tk_in (fun h8 => h (by rw [idxP_false zs (fun z => by unfold kwP; rw [h8]; rfl)]; decide))
    exact .inl ⟨by simpa using h, rfl, hi.1, hi.2⟩

/-- What Pair tells of a line without a second one. -/
def otherL (x : LnD) : LnD := if x.1.1 = 3 then x else ((1, 0), ⟨#[]⟩)

/-- Lines with / between, at most so many. -/
def linesR (l : List Tk) : Nat → Int → Except (Int × Int) (List LnD × Int)
  | 0, i => .ok ([], i)
  | f + 1, i =>
    if (lineR l i).2.2 = 0 then
      if f = 0 ∨ signV l (lineR l i).2.1 ⟨#[47]⟩ = false then .ok ([(lineR l i).1], (lineR l i).2.1)
      else match linesR l f ((lineR l i).2.1 + 1) with
        | .error e => .error e
        | .ok (xs, j) => .ok ((lineR l i).1 :: xs, j)
    else .error ((lineR l i).2.1, (lineR l i).2.2)

def pairR (l : List Tk) (i : Int) : (LnD × LnD) × Int × Int :=
  match linesR l 2 i with
  | .error (a, e) => ((noLn, noLn), a, e)
  | .ok (xs, j) => match xs with
    | [x, y] => ((x, y), j, 0)
    | x :: _ => ((x, otherL x), j, 0)
    | [] => ((noLn, noLn), j, 0)

/-- What is left out of four lines. -/
def fillL : List LnD → LnD × LnD × LnD × LnD
  | [a] => (a, otherL a, otherL a, otherL (otherL a))
  | [a, b] => (a, b, otherL a, otherL b)
  | [a, b, c] => (a, b, c, otherL b)
  | a :: b :: c :: d :: _ => (a, b, c, d)
  | [] => (noLn, noLn, noLn, noLn)

def fourR (l : List Tk) (i : Int) : (LnD × LnD × LnD × LnD) × Int × Int :=
  match linesR l 4 i with
  | .error (a, e) => ((noLn, noLn, noLn, noLn), a, e)
  | .ok (xs, j) => (fillL xs, j, 0)

/-- A line may be. -/
def goodLn (x : LnD) : Bool :=
  if x.1.1 = 1 then decide (x.1.2 = 0) && decide (x.2.size = 0)
  else if x.1.1 = 2 then decide (¬ x.1.2 = 0) && decide (-10000 ≤ x.1.2) && decide (x.1.2 ≤ 10000) && (decide (x.2.size = 0) || customV x.2)
  else if x.1.1 = 3 then decide (x.1.2 = 0) && customV x.2
  else if x.1.1 = 4 then decide (1 ≤ x.1.2) && decide (x.1.2 ≤ 10000) && (decide (x.2.size = 0) || customV x.2)
  else false

end Go.Proofs.YtbnfggnklhfimaaGreatDoor

/- What a word is for a line, by the document's own way. -/
namespace Go.Proofs.YtbnfggnklhfimaaGreatDoor
open Go.RowKit

theorem low_span : lowV spanB = spanB := by kernel_rfl

end Go.Proofs.YtbnfggnklhfimaaGreatDoor

/- A line, read by the document's own way. -/
namespace Go.Proofs.YtbnfggnklhfimaaGreatDoor
open Go.RowKit

/-- What the document's Read of lines keeps. -/
structure LnSt (w wr : World) (v : Value) (l : List Tk) : Prop where
  tks : Tks wr v l
  z : LnAt wr w.heap.size noLn
  no : LnAt wr (w.heap.size + 1) noLn
  bel : Below w.heap.size w wr

theorem LnSt.next {w w1 w2 : World} {v : Value} {l : List Tk} (h : LnSt w w1 v l) (hb : Below w1.heap.size w1 w2) : LnSt w w2 v l :=
  ⟨h.tks.below hb, h.z.below hb h.z.lt, h.no.below hb h.no.lt, h.bel.trans (hb.mono h.bel.size)⟩

theorem LnSt.new (w : World) (v : Value) (l : List Tk) (h : Tks w v l) : LnSt w ((w.alloc (.cells #[.int .i64 0, .int .i64 0, .string ⟨#[]⟩] 23)).alloc (.cells #[.int .i64 0, .int .i64 0, .string ⟨#[]⟩] 23)) v l := by
  have hb := (Below.refl _ w).alloc (Nat.le_refl _) (.cells #[.int .i64 0, .int .i64 0, .string ⟨#[]⟩] 23)
  have h1 := LnAt.new w 0 0 ⟨#[]⟩
  have hb2 := (Below.refl _ (w.alloc (.cells #[.int .i64 0, .int .i64 0, .string ⟨#[]⟩] 23))).alloc (Nat.le_refl _) (.cells #[.int .i64 0, .int .i64 0, .string ⟨#[]⟩] 23)
  have h2 := LnAt.new (w.alloc (.cells #[.int .i64 0, .int .i64 0, .string ⟨#[]⟩] 23)) 0 0 ⟨#[]⟩
  have hB := hb.trans (hb2.mono hb.size)
  refine ⟨h.below hB, h1.below hb2 h1.lt, ?_, hB⟩
  simpa [noLn] using h2

def cntL (nu na sp : Int) : Nat := (if nu < 0 then 1 else 0) + (if na < 0 then 1 else 0) + (if sp < 0 then 1 else 0)

/-- Where the loop over the words stands. -/
structure ScanInv (l : List Tk) (at_ : Int) (R : Int × Int × Int × Int) (f : Nat) (nu na sp k : Int) : Prop where
  eq : R = scanL l at_ f nu na sp k
  fuel : cntL nu na sp < f
  k0 : k = at_ ∨ (at_ < k ∧ 0 ≤ at_ ∧ k ≤ l.length)
  nu0 : nu = -1 ∨ (0 ≤ nu ∧ nu < l.length)
  na0 : na = -1 ∨ (0 ≤ na ∧ na < l.length)
  sp0 : sp = -1 ∨ (0 ≤ sp ∧ sp < l.length)

/-- Where it ends. -/
structure ScanEnd (l : List Tk) (at_ : Int) (R : Int × Int × Int × Int) (nu na sp k : Int) : Prop where
  eq : R = (nu, na, sp, k)
  k0 : k = at_ ∨ (at_ < k ∧ 0 ≤ at_ ∧ k ≤ l.length)
  nu0 : nu = -1 ∨ (0 ≤ nu ∧ nu < l.length)
  na0 : na = -1 ∨ (0 ≤ na ∧ na < l.length)

theorem ScanInv.num {l : List Tk} {at_ : Int} {R : Int × Int × Int × Int} {f : Nat} {nu na sp k : Int} (h : ScanInv l at_ R (f + 1) nu na sp k) (h1 : kindL l k = 1) (h2 : nu < 0) : ScanInv l at_ R f k na sp (k + 1) := by
  have hk := kindL_in (l := l) (i := k) (by rw [h1]; decide)
  have h0 := h.k0
  refine ⟨?_, ?_, .inr ⟨by omega, by omega, by omega⟩, .inr hk, h.na0, h.sp0⟩
  · rw [h.eq, scanL, if_pos ⟨h1, h2⟩]
  · have := h.fuel
    unfold cntL at this ⊢
    rw [if_pos h2] at this
    rw [if_neg (by omega)]
    omega

theorem ScanInv.nam {l : List Tk} {at_ : Int} {R : Int × Int × Int × Int} {f : Nat} {nu na sp k : Int} (h : ScanInv l at_ R (f + 1) nu na sp k) (h1 : kindL l k = 2) (h2 : na < 0) : ScanInv l at_ R f nu k sp (k + 1) := by
  have hk := kindL_in (l := l) (i := k) (by rw [h1]; decide)
  have h0 := h.k0
  refine ⟨?_, ?_, .inr ⟨by omega, by omega, by omega⟩, h.nu0, .inr hk, h.sp0⟩
  · rw [h.eq, scanL, if_neg (by rw [h1]; omega), if_pos ⟨h1, h2⟩]
  · have := h.fuel
    unfold cntL at this ⊢
    rw [if_pos h2] at this
    rw [if_neg (show ¬ k < 0 by omega)]
    omega

theorem ScanInv.spn {l : List Tk} {at_ : Int} {R : Int × Int × Int × Int} {f : Nat} {nu na sp k : Int} (h : ScanInv l at_ R (f + 1) nu na sp k) (h1 : kindL l k = 3) (h2 : sp < 0) (h3 : ¬ at_ < k) : ScanInv l at_ R f nu na k (k + 1) := by
  have hk := kindL_in (l := l) (i := k) (by rw [h1]; decide)
  have h0 := h.k0
  refine ⟨?_, ?_, .inr ⟨by omega, by omega, by omega⟩, h.nu0, h.na0, .inr hk⟩
  · rw [h.eq, scanL, if_neg (by rw [h1]; omega), if_neg (by rw [h1]; omega), if_pos ⟨h1, h2⟩, if_neg h3]
  · have := h.fuel
    unfold cntL at this ⊢
    rw [if_pos h2] at this
    rw [if_neg (show ¬ k < 0 by omega)]
    omega

theorem ScanInv.brk {l : List Tk} {at_ : Int} {R : Int × Int × Int × Int} {f : Nat} {nu na sp k : Int} (h : ScanInv l at_ R (f + 1) nu na sp k) (h1 : kindL l k = 3) (h2 : sp < 0) (h3 : at_ < k) : ScanEnd l at_ R nu na k (k + 1) := by
  have hk := kindL_in (l := l) (i := k) (by rw [h1]; decide)
  have h0 := h.k0
  refine ⟨?_, .inr ⟨by omega, by omega, by omega⟩, h.nu0, h.na0⟩
  rw [h.eq, scanL, if_neg (by rw [h1]; omega), if_neg (by rw [h1]; omega), if_pos ⟨h1, h2⟩, if_pos h3]

theorem ScanInv.stop {l : List Tk} {at_ : Int} {R : Int × Int × Int × Int} {f : Nat} {nu na sp k : Int} (h : ScanInv l at_ R (f + 1) nu na sp k) (h1 : ¬ (kindL l k = 1 ∧ nu < 0)) (h2 : ¬ (kindL l k = 2 ∧ na < 0)) (h3 : ¬ (kindL l k = 3 ∧ sp < 0)) : ScanEnd l at_ R nu na sp k :=
  ⟨by rw [h.eq, scanL, if_neg h1, if_neg h2, if_neg h3], h.k0, h.nu0, h.na0⟩

theorem kindL_four (l : List Tk) (i : Int) : kindL l i = 0 ∨ kindL l i = 1 ∨ kindL l i = 2 ∨ kindL l i = 3 := by
  unfold kindL
  repeat' split
  all_goals simp

theorem LnAt.set0 {w : World} {b : Nat} {x : LnD} (h : LnAt w b x) (m : Int) : LnAt (w.setCell ⟨b, 0, none⟩ (.int .i64 m)) b ((m, x.1.2), x.2) := cell_put (i := 0) (.int .i64 m) h

theorem LnAt.set1 {w : World} {b : Nat} {x : LnD} (h : LnAt w b x) (m : Int) : LnAt (w.setCell ⟨b, 1, none⟩ (.int .i64 m)) b ((x.1.1, m), x.2) := cell_put (i := 1) (.int .i64 m) h

theorem LnAt.set2 {w : World} {b : Nat} {x : LnD} (h : LnAt w b x) (s : ByteArray) : LnAt (w.setCell ⟨b, 2, none⟩ (.string s)) b (x.1, s) := cell_put (i := 2) (.string s) h

theorem LnSt.put {w w1 : World} {v : Value} {l : List Tk} {V : Nat} (h : LnSt w w1 v l) (hV : w.heap.size + 1 < V) (hT : ∀ b, (∃ off n cap, v = .slice (some ⟨b, off, none⟩) n cap) → b < V) (i : Nat) (y : Value) : LnSt w (w1.setCell ⟨V, i, none⟩ y) v l := by
  have hs := (Below.refl V w1).setCell (p := ⟨V, i, none⟩) (Nat.le_refl _) y
  refine ⟨⟨?_⟩, h.z.below hs (by omega), h.no.below hs (by omega), h.bel.setCell (p := ⟨V, i, none⟩) (by show w.heap.size ≤ V; omega) _⟩
  rcases h.tks.val with h | ⟨b, off, cap, hv, hlt, hc⟩
  · exact .inl h
  · refine .inr ⟨b, off, cap, hv, by simpa using hlt, fun j x hx => ?_⟩
    have hb := hT b ⟨off, _, cap, hv⟩
    obtain ⟨a0, a1, a2, a3⟩ := hc j x hx
    exact ⟨(hs.cell (p := ⟨b, _, none⟩) hb).trans a0, (hs.cell (p := ⟨b, _, none⟩) hb).trans a1, (hs.cell (p := ⟨b, _, none⟩) hb).trans a2, (hs.cell (p := ⟨b, _, none⟩) hb).trans a3⟩

end Go.Proofs.YtbnfggnklhfimaaGreatDoor

/- The developers' lines: what their words say, pure. -/
namespace Go.Proofs.YtbnfggnklhfimaaGreatDoor
open Go.RowKit

/-- What the words of a line say. -/
structure PaD where
  next : Int
  num : Int
  numAt : Int
  name : ByteArray
  hasN : Bool
  hasS : Bool

def paC (x : PaD) : Array Value := #[.int .i64 x.next, .int .i64 x.num, .int .i64 x.numAt, .string x.name, .bool x.hasN, .bool x.hasS]

def paA (x : PaD) : Value := .agg (paC x)

/-- A whole number at a place, and whether there is one. -/
def wnumV (l : List Tk) (i : Int) : Int × Bool := if (intV l i).2.2 = 10 then (10001, true) else ((intV l i).1, decide ((intV l i).2.2 = 0))

/-- A name at a place, and whether there is one. -/
def lnmV (l : List Tk) (i : Int) : ByteArray × Bool := if (tkV l i).1.1 = 1 ∧ customV (tkV l i).2.1 = true then ((tkV l i).2.1, true) else (⟨#[]⟩, false)

theorem custom_span {s : ByteArray} (h : customV s = true) : isB s spanB = false := by
  have h0 : customV s = cuB s 7 := rfl
  rw [h0] at h
  unfold cuB at h
  rw [show 6 - 6 = 0 from rfl] at h
  cases hk : kwB s 0
  · exact hk
  · rw [if_pos hk] at h; cases h

theorem cuB_name {s : ByteArray} : ∀ {r : Nat}, cuB s r = true → nameB s = true
  | 0, h => h
  | r + 1, h => by
    unfold cuB at h
    split at h
    · cases h
    · exact cuB_name h

theorem custom_size {s : ByteArray} (h : customV s = true) : 0 < s.size := by
  have := cuB_name (r := 7) h
  unfold nameB at this
  simp at this
  exact this.1

theorem wnum_kind (l : List Tk) (i : Int) : (wnumV l i).2 = true ↔ kindL l i = 1 := by
  have he := int_err l i
  unfold wnumV kindL
  by_cases h1 : (tkV l i).1.1 = 1
  · rw [if_pos h1]
    have hn : ¬ ((intV l i).2.2 = 0 ∨ (intV l i).2.2 = 10) := fun h => by have := he h; rw [h1] at this; exact absurd this (by decide)
    have h10 : ¬ (intV l i).2.2 = 10 := fun h => hn (.inr h)
    have h0 : ¬ (intV l i).2.2 = 0 := fun h => hn (.inl h)
    rw [if_neg h10]
    constructor
    · intro h; simp [h0] at h
    · intro h; split at h <;> (try split at h) <;> simp at h
  · rw [if_neg h1]
    by_cases h10 : (intV l i).2.2 = 10
    · rw [if_pos h10, if_pos (.inr h10)]; simp
    · rw [if_neg h10]
      by_cases h0 : (intV l i).2.2 = 0
      · rw [if_pos (.inl h0)]; simp [h0]
      · rw [if_neg (by omega)]; simp [h0]

theorem name_kind (l : List Tk) (i : Int) : (lnmV l i).2 = true ↔ kindL l i = 2 := by
  unfold lnmV kindL
  by_cases h1 : (tkV l i).1.1 = 1
  · by_cases hc : customV (tkV l i).2.1 = true
    · rw [if_pos ⟨h1, hc⟩, if_pos h1, if_neg (by rw [custom_span hc]; simp), if_pos hc]; simp
    · rw [if_neg (fun h => hc h.2), if_pos h1, if_neg hc]
      constructor
      · intro h; simp at h
      · intro h; split at h <;> simp at h
  · rw [if_neg (fun h => h1 h.1), if_neg h1]
    constructor
    · intro h; simp at h
    · intro h; split at h <;> simp at h

theorem name_text {l : List Tk} {i : Int} (h : kindL l i = 2) : (lnmV l i).1 = (tkV l i).2.1 ∧ 0 < (tkV l i).2.1.size := by
  have h2 := (name_kind l i).2 h
  unfold lnmV at h2 ⊢
  split
  · rename_i h3; exact ⟨rfl, custom_size h3.2⟩
  · rename_i h3; rw [if_neg h3] at h2; simp at h2

theorem span_kind (l : List Tk) (i : Int) : (kindL l i = 3 ∧ keywV l i [spanB] = (0, i + 1)) ∨ (¬ kindL l i = 3 ∧ keywV l i [spanB] = (-1, i)) := by
  have hk : kwP l i spanB = true ↔ kindL l i = 3 := by
    unfold kwP kindL
    by_cases h1 : (tkV l i).1.1 = 1
    · rw [if_pos h1]
      cases hb : isB (tkV l i).2.1 spanB
      · rw [if_neg (by simp)]
        constructor
        · intro h; simp at h
        · intro h; split at h <;> simp at h
      · rw [if_pos rfl]; simp [h1]
    · rw [if_neg h1]
      constructor
      · intro h; simp [h1] at h
      · intro h; split at h <;> simp at h
  unfold keywV
  rw [show idxP (kwP l i) [spanB] = if kwP l i spanB = true then 0 else -1 from by simp [idxP]]
  cases hb : kwP l i spanB
  · exact .inr ⟨fun h => (by rw [hk.2 h] at hb; cases hb), by simp⟩
  · exact .inl ⟨hk.1 hb, by simp⟩

/-- What the words at these places say. -/
def paOf (l : List Tk) (nu na sp k : Int) : PaD := ⟨k, if 0 ≤ nu then (wnumV l nu).1 else 0, if 0 ≤ nu then nu else 0, nameOf l na, decide (0 ≤ nu), decide (0 ≤ sp)⟩

def ltkV (l : List Tk) (at_ : Int) : PaD := let r := scanL l at_ 4 (-1) (-1) (-1) at_; paOf l r.1 r.2.1 r.2.2.1 r.2.2.2

def spanF (l : List Tk) (x : PaD) : Bool × PaD := if kindL l x.next = 3 ∧ x.hasS = false then (true, { x with hasS := true, next := x.next + 1 }) else (false, x)

def numF (l : List Tk) (x : PaD) : Bool × PaD := if kindL l x.next = 1 ∧ x.hasN = false then (true, { x with hasN := true, num := (wnumV l x.next).1, numAt := x.next, next := x.next + 1 }) else (false, x)

def namF (l : List Tk) (x : PaD) : Bool × PaD := if kindL l x.next = 2 ∧ x.name.size = 0 then (true, { x with name := (tkV l x.next).2.1, next := x.next + 1 }) else (false, x)

/-- What is wrong with the words: the place and the error. -/
def lftV (x : PaD) : Int × Int :=
  if x.hasN = false ∧ x.name.size = 0 then (x.next, 50)
  else if x.hasN = false then (0, 0)
  else if x.num < -10000 ∨ 10000 < x.num then (x.numAt, 52)
  else if x.num = 0 ∨ (x.hasS = true ∧ x.num < 1) then (x.numAt, 50)
  else (0, 0)

def llnV (x : PaD) : LnD :=
  if x.hasS = true ∧ x.hasN = false then ((4, 1), x.name)
  else if x.hasS = true then ((4, x.num), x.name)
  else if x.hasN = true then ((2, x.num), x.name)
  else ((3, x.num), x.name)

/-- Where the words that belong to a line may stand. -/
structure ScI (l : List Tk) (at_ : Int) (nu na sp k : Int) : Prop where
  nu0 : nu = -1 ∨ (0 ≤ nu ∧ kindL l nu = 1)
  na0 : na = -1 ∨ (0 ≤ na ∧ kindL l na = 2)
  sp0 : sp = -1 ∨ 0 ≤ sp
  k0 : (nu = -1 ∧ na = -1 ∧ sp = -1 ∧ k = at_) ∨ ((0 ≤ nu ∨ 0 ≤ na ∨ 0 ≤ sp) ∧ at_ < k)

theorem ScI.num {l : List Tk} {at_ nu na sp k : Int} (h : ScI l at_ nu na sp k) (h1 : kindL l k = 1) : ScI l at_ k na sp (k + 1) := by
  have hk := kindL_in (l := l) (i := k) (by rw [h1]; decide)
  exact ⟨.inr ⟨hk.1, h1⟩, h.na0, h.sp0, .inr ⟨.inl hk.1, by rcases h.k0 with h | h <;> omega⟩⟩

theorem ScI.nam {l : List Tk} {at_ nu na sp k : Int} (h : ScI l at_ nu na sp k) (h1 : kindL l k = 2) : ScI l at_ nu k sp (k + 1) := by
  have hk := kindL_in (l := l) (i := k) (by rw [h1]; decide)
  exact ⟨h.nu0, .inr ⟨hk.1, h1⟩, h.sp0, .inr ⟨.inr (.inl hk.1), by rcases h.k0 with h | h <;> omega⟩⟩

theorem ScI.spn {l : List Tk} {at_ nu na sp k : Int} (h : ScI l at_ nu na sp k) (h1 : kindL l k = 3) : ScI l at_ nu na k (k + 1) := by
  have hk := kindL_in (l := l) (i := k) (by rw [h1]; decide)
  exact ⟨h.nu0, h.na0, .inr hk.1, .inr ⟨.inr (.inr hk.1), by rcases h.k0 with h | h <;> omega⟩⟩

theorem scan_inv (l : List Tk) (at_ : Int) : ∀ (f : Nat) (nu na sp k : Int), ScI l at_ nu na sp k → ScI l at_ (scanL l at_ f nu na sp k).1 (scanL l at_ f nu na sp k).2.1 (scanL l at_ f nu na sp k).2.2.1 (scanL l at_ f nu na sp k).2.2.2
  | 0, nu, na, sp, k, h => h
  | f + 1, nu, na, sp, k, h => by
    unfold scanL
    split
    · rename_i h1; exact scan_inv l at_ f _ _ _ _ (h.num h1.1)
    · split
      · rename_i h1; exact scan_inv l at_ f _ _ _ _ (h.nam h1.1)
      · split
        · rename_i h1
          split
          · exact h.spn h1.1
          · exact scan_inv l at_ f _ _ _ _ (h.spn h1.1)
        · exact h

/-- The line that such words are, the developers' way. -/
theorem line_take (l : List Tk) (at_ : Int) : lineOf l at_ (scanL l at_ 4 (-1) (-1) (-1) at_) = if (lftV (ltkV l at_)).2 = 0 then (llnV (ltkV l at_), (ltkV l at_).next, 0) else (noLn, (lftV (ltkV l at_)).1, (lftV (ltkV l at_)).2) := by
  have hi := scan_inv l at_ 4 (-1) (-1) (-1) at_ ⟨.inl rfl, .inl rfl, .inl rfl, .inl ⟨rfl, rfl, rfl, rfl⟩⟩
  unfold ltkV
  generalize scanL l at_ 4 (-1) (-1) (-1) at_ = R at *
  obtain ⟨nu, na, sp, k⟩ := R
  simp only at hi ⊢
  obtain ⟨hnu, hna, hsp, hk⟩ := hi
  have hname : nameOf l na = (⟨#[]⟩ : ByteArray) ∧ na = -1 ∨ 0 < (nameOf l na).size ∧ 0 ≤ na := by
    rcases hna with rfl | ⟨h0, h2⟩
    · exact .inl ⟨rfl, rfl⟩
    · refine .inr ⟨?_, h0⟩
      unfold nameOf
      rw [if_pos h0]
      exact (name_text h2).2
  have hz : (⟨#[]⟩ : ByteArray).size = 0 := rfl
  unfold lineOf lftV llnV paOf
  simp only
  rcases hnu with rfl | ⟨hnu0, hnu1⟩
  · rw [show decide ((0 : Int) ≤ -1) = false from rfl]
    rw [if_neg (show ¬ (0 : Int) ≤ -1 by decide)]
    rcases hname with ⟨hn, rfl⟩ | ⟨hn, hna0⟩
    · rw [hn, hz]
      rcases hsp with rfl | hsp0
      · have hk' : k = at_ := by rcases hk with h | h <;> omega
        subst hk'
        simp
      · have hk' : ¬ k = at_ := by rcases hk with h | h <;> omega
        rw [if_neg hk', if_neg (show ¬ (0 : Int) ≤ -1 by decide), if_pos hsp0, if_pos (show (-1 : Int) < 0 by decide)]
        simp
    · have hk' : ¬ k = at_ := by rcases hk with h | h <;> omega
      have hnz : ¬ (nameOf l na).size = 0 := by omega
      rw [if_neg hk', if_neg (show ¬ (0 : Int) ≤ -1 by decide)]
      rcases hsp with rfl | hsp0
      · simp [hnz]
      · rw [if_pos hsp0, if_neg (show ¬ na < 0 by omega)]
        simp [hnz, hsp0]
  · have hk' : ¬ k = at_ := by rcases hk with h | h <;> omega
    rw [if_neg hk', if_pos hnu0, if_pos hnu0, if_pos hnu0, decide_eq_true hnu0]
    have hw := (wnum_kind l nu).2 hnu1
    unfold wnumV at hw ⊢
    by_cases h10 : (intV l nu).2.2 = 10
    · rw [if_pos h10, if_pos (.inl (by omega))]
      simp
    · rw [if_neg h10] at hw ⊢
      have h0 : (intV l nu).2.2 = 0 := by simpa using hw
      simp only [h0, not_true_eq_false, false_or]
      generalize (intV l nu).1 = n
      by_cases hlim : 10000 < n ∨ n < -10000
      · rw [if_pos hlim]
        have h2 : n < -10000 ∨ 10000 < n := by omega
        simp [h2]
      · rw [if_neg hlim]
        have h2 : ¬ (n < -10000 ∨ 10000 < n) := by omega
        by_cases hn0 : n = 0
        · subst hn0
          simp
        · rcases hsp with rfl | hsp0
          · simp [h2, hn0]
          · by_cases hn1 : n < 0
            · have h3 : n < 1 := by omega
              simp [h2, hn0, hn1, h3, hsp0]
            · have h3 : ¬ n < 1 := by omega
              simp [h2, hn0, hn1, h3, hsp0]

/-- Both lists of keywords, asked at once. -/
theorem keyw_both (l : List Tk) (i : Int) : ((keywV l i (autoK ++ wideK)).1 = 0 ∧ 0 ≤ (keywV l i autoK).1 ∧ (keywV l i (autoK ++ wideK)).2 = i + 1 ∧ 0 ≤ i ∧ i < l.length)
    ∨ (0 < (keywV l i (autoK ++ wideK)).1 ∧ ¬ 0 ≤ (keywV l i autoK).1 ∧ 0 ≤ (keywV l i wideK).1)
    ∨ ((keywV l i (autoK ++ wideK)).1 = -1 ∧ ¬ 0 ≤ (keywV l i autoK).1 ∧ ¬ 0 ≤ (keywV l i wideK).1) := by
  have ha := keyw_pair l i autoK
  have hbd := idxP_bd (kwP l i) wideK
  rw [show autoK ++ wideK = (⟨#[97, 117, 116, 111]⟩ : ByteArray) :: wideK from rfl]
  unfold keywV at ha ⊢
  rw [show autoK = [(⟨#[97, 117, 116, 111]⟩ : ByteArray)] from rfl] at ha ⊢
  rw [show idxP (kwP l i) ((⟨#[97, 117, 116, 111]⟩ : ByteArray) :: wideK) = if kwP l i ⟨#[97, 117, 116, 111]⟩ = true then 0 else if idxP (kwP l i) wideK < 0 then -1 else idxP (kwP l i) wideK + 1 from rfl]
  rw [show idxP (kwP l i) [(⟨#[97, 117, 116, 111]⟩ : ByteArray)] = if kwP l i ⟨#[97, 117, 116, 111]⟩ = true then 0 else -1 from by simp [idxP]] at ha ⊢
  cases hb : kwP l i ⟨#[97, 117, 116, 111]⟩
  · simp only [Bool.false_eq_true, if_false] at ha ⊢
    generalize idxP (kwP l i) wideK = q at *
    by_cases hq : q < 0
    · simp [hq]
    · have h1 : ¬ q + 1 < 0 := by omega
      simp [hq, h1]
      omega
  · rw [hb] at ha
    simp at ha
    simp
    exact ha

end Go.Proofs.YtbnfggnklhfimaaGreatDoor

/- The developers' lines: auto, what is opposite, a whole number and a name at a place. -/
namespace Go.Proofs.YtbnfggnklhfimaaGreatDoor
open Go.RowKit

set_option maxRecDepth 100000 in
set_option maxHeartbeats 2000000 in
theorem auto_any (w : World) : Calls Tryz.prog 18 #[] w fun e w' => e = .returned (lnA ((1, 0), ⟨#[]⟩)) ∧ Below w.heap.size w w' := by
  have hb := (Below.refl _ w).alloc (Nat.le_refl _) (.cells #[.int .i64 0, .int .i64 0, .string ⟨#[]⟩] 23)
  have h1 := LnAt.new w 0 0 ⟨#[]⟩
  have z0 := h1.c0
  have z1 := h1.c1
  have z2 := h1.c2
  have zz := h1.z
  have HB := hide hb
  simp only at z0 z1 z2
  clear h1 hb
  go_enter Tryz.func18, Tryz.ntmps18
  go_upto_region 1 with fail
  generalize w.alloc (.cells #[.int .i64 0, .int .i64 0, .string ⟨#[]⟩] 23) = w1 at *
  go_wp2_with fail
  refine bodyPost_ret (v := lnA ((1, 0), ⟨#[]⟩)) (by simp [results, Tryz.results18, go_sem, z0, z1, z2, lnA]) rfl ⟨rfl, below_three HB.out (Nat.le_refl _) _ _ _⟩

set_option maxRecDepth 100000 in
set_option maxHeartbeats 2000000 in
theorem opposite_any (x : LnD) (w : World) : Calls Tryz.prog 25 #[lnA x] w fun e w' => e = .returned (lnA (otherL x)) ∧ Below w.heap.size w w' := by
  obtain ⟨⟨k, n⟩, s⟩ := x
  have h1 := LnAt.new w k n s
  have hb := (Below.refl _ w).alloc (Nat.le_refl _) (.cells #[.int .i64 k, .int .i64 n, .string s] 23)
  have hb2 := (Below.refl _ (w.alloc (.cells #[.int .i64 k, .int .i64 n, .string s] 23))).alloc (Nat.le_refl _) (.cells #[.int .i64 0, .int .i64 0, .string ⟨#[]⟩] 23)
  have h2 := LnAt.new (w.alloc (.cells #[.int .i64 k, .int .i64 n, .string s] 23)) 0 0 ⟨#[]⟩
  have h3 := h1.below hb2 h1.lt
  have hB := hide (hb.trans (hb2.mono hb.size))
  rw [World.size_alloc] at h2
  have x0 := h3.c0
  have x1 := h3.c1
  have x2 := h3.c2
  have z0 := h2.c0
  have z1 := h2.c1
  have z2 := h2.c2
  have zz := h2.z
  simp only at x0 x1 x2 z0 z1 z2
  have hn1 : ¬ w.heap.size = w.heap.size + 1 := by omega
  have hn2 : ¬ w.heap.size + 1 = w.heap.size := by omega
  have H2 := hide h2
  have CA := hide auto_any
  clear h1 h2 h3 hb hb2
  unfold otherL lnA
  rcases eqk k 3 with ⟨hk, hkb⟩ | ⟨hk, hkb⟩
  · subst hk
    rw [if_pos rfl]
    go_enter Tryz.func25, Tryz.ntmps25
    go_upto_region 1 with fail
    generalize ((w.alloc (.cells #[.int .i64 3, .int .i64 n, .string s] 23)).alloc (.cells #[.int .i64 0, .int .i64 0, .string ⟨#[]⟩] 23)) = w1 at *
    go_wp2_with fail
    refine bodyPost_ret (v := .agg #[.int .i64 3, .int .i64 n, .string s]) (by simp [results, Tryz.results25, go_sem, z0, z1, z2]) rfl ⟨rfl, below_three hB.out (Nat.le_succ _) _ _ _⟩
  · rw [if_neg hk]
    go_enter Tryz.func25, Tryz.ntmps25
    go_upto_region 1 with fail
    generalize ((w.alloc (.cells #[.int .i64 k, .int .i64 n, .string s] 23)).alloc (.cells #[.int .i64 0, .int .i64 0, .string ⟨#[]⟩] 23)) = w1 at *
    clear x1 x2 z0 z1 z2 zz
    go_wp2_with fail
    refine Calls.mono (unhide CA _) ?_
    rintro e w2 ⟨rfl, hb⟩
    have h4 := (H2.out).below hb (H2.out).lt
    have hB2 := hide ((hB.out).trans (hb.mono (hB.out).size))
    have z0 := h4.c0
    have z1 := h4.c1
    have z2 := h4.c2
    have zz := h4.z
    simp only at z0 z1 z2
    unfold lnA
    clear hb h4 H2 x0 hB
    go_wp2_with fail
    refine bodyPost_ret (v := .agg #[.int .i64 1, .int .i64 0, .string ⟨#[]⟩]) (by simp [results, Tryz.results25, go_sem, z0, z1, z2]) rfl ⟨rfl, below_three hB2.out (Nat.le_succ _) _ _ _⟩

set_option maxRecDepth 100000 in
set_option maxHeartbeats 2000000 in
theorem wholeNumber_any (l : List Tk) (at_ : Int) (v : Value) (w : World) (h : Tks w v l) (hl : Short l) :
    Calls Tryz.prog 57 #[v, .int .i64 at_] w fun e w' => e = .returned (.tuple #[.int .i64 (wnumV l at_).1, .bool (wnumV l at_).2]) ∧ Below w.heap.size w w' := by
  have ci := integer_any l at_ v w h hl
  obtain ⟨ao, n0, cap, rfl⟩ : ∃ ao n cap, v = .slice ao n cap := by
    rcases h.val with ⟨_, ao, cap, h⟩ | ⟨b, off, cap, h, _⟩
    · exact ⟨_, _, _, h⟩
    · exact ⟨_, _, _, h⟩
  unfold wnumV
  generalize intV l at_ = I at *
  obtain ⟨n, j, er⟩ := I
  simp only at ci ⊢
  have CI := hide ci
  clear ci h hl
  rcases eqk er 10 with ⟨hk, hkb⟩ | ⟨hk, hkb⟩
  · subst hk
    rw [if_pos rfl]
    clear hkb
    go_enter Tryz.func57, Tryz.ntmps57
    go_wp2_with fail
    refine Calls.mono CI.out ?_
    rintro e w1 ⟨rfl, hb⟩
    go_wp2_with fail
    go_ret2
    exact ⟨rfl, hb⟩
  · rw [if_neg hk]
    have he : decide (er = 0) = (er == 0) := by rcases eqk er 0 with ⟨h, hb⟩ | ⟨h, hb⟩ <;> simp [h]
    rw [he]
    clear hk he
    go_enter Tryz.func57, Tryz.ntmps57
    go_wp2_with fail
    refine Calls.mono CI.out ?_
    rintro e w1 ⟨rfl, hb⟩
    go_wp2_with fail
    go_ret2
    exact ⟨rfl, hb⟩

set_option maxRecDepth 100000 in
set_option maxHeartbeats 4000000 in
theorem nameAt_any (l : List Tk) (at_ : Int) (v : Value) (w : World) (h : Tks w v l) (hl : Short l) :
    Calls Tryz.prog 59 #[v, .int .i64 at_] w fun e w' => e = .returned (.tuple #[.string (lnmV l at_).1, .bool (lnmV l at_).2]) ∧ Below w.heap.size w w' := by
  have cc := fun w => custom_any (tkV l at_).2.1 w (hl.at at_).1
  have hnv : lnmV l at_ = if (tkV l at_).1.1 = 1 ∧ customV (tkV l at_).2.1 = true then ((tkV l at_).2.1, true) else (⟨#[]⟩, false) := rfl
  have hll := hl.1
  by_cases hn : at_ < 0
  · have hv : tkV l at_ = ((8, 0), ⟨#[]⟩, ⟨#[]⟩) := by unfold tkV; rw [if_pos hn]
    rw [hv, if_neg (by simp)] at hnv
    rw [hnv]
    obtain ⟨ao, n, cap, rfl⟩ : ∃ ao n cap, v = .slice ao n cap := by
      rcases h.val with ⟨_, ao, cap, h⟩ | ⟨b, off, cap, h, _⟩
      · exact ⟨_, _, _, h⟩
      · exact ⟨_, _, _, h⟩
    clear h hv hnv cc hll hl
    go_enter Tryz.func59, Tryz.ntmps59
    go_wp2_with fail
    go_ret2
    exact ⟨rfl, Below.refl _ _⟩
  · obtain ⟨i, rfl⟩ := Int.eq_ofNat_of_zero_le (show 0 ≤ at_ by omega)
    by_cases hi : i < l.length
    · obtain ⟨x, hx⟩ : ∃ x, l[i]? = some x := ⟨_, List.getElem?_eq_getElem hi⟩
      have hv : tkV l (i : Int) = x := by unfold tkV; rw [if_neg hn]; simp [List.getD, hx]
      rw [hv] at hnv cc
      rcases h.val with ⟨rfl, _⟩ | ⟨b, off, cap, rfl, hlt, hc⟩
      · simp at hi
      obtain ⟨a0, a1, a2, a3⟩ := hc i x hx
      have hii : (i : Int) < (l.length : Int) := by omega
      have hi0 : ¬ (i : Int) < 0 := hn
      have hlt2 : (l.length : Int) ≤ 1000000 := by omega
      have B2 : Hid (∀ {w' : World}, Below w.heap.size w w' → w'.cell? ⟨b, off + i * 4 + 2, none⟩ = some (.string x.2.1)) := hide fun hb => (hb.cell (p := ⟨b, _, none⟩) hlt).trans a2
      generalize lnmV l (i : Int) = R at *
      generalize l.length = n at *
      obtain ⟨⟨k, p⟩, s, nm⟩ := x
      simp only at hnv cc a0 a1 a2 a3 B2
      have CC := hide cc
      clear h hv hc hx cc hl a1 a3 hn
      rcases eqk k 1 with ⟨hk, hkb⟩ | ⟨hk, hkb⟩
      · subst hk
        clear hkb
        cases hcu : customV s
        · rw [hcu, if_neg (by simp)] at hnv
          rw [hcu] at CC
          rw [hnv]
          clear hnv hcu
          go_enter Tryz.func59, Tryz.ntmps59
          go_wp2_with fail
          refine Calls.mono (unhide CC _) ?_
          rintro e w1 ⟨rfl, hb⟩
          clear a0 a2
          go_wp2_with fail
          go_ret2
          exact ⟨rfl, hb⟩
        · rw [hcu, if_pos ⟨rfl, rfl⟩] at hnv
          rw [hcu] at CC
          rw [hnv]
          clear hnv hcu
          go_enter Tryz.func59, Tryz.ntmps59
          go_wp2_with fail
          refine Calls.mono (unhide CC _) ?_
          rintro e w1 ⟨rfl, hb⟩
          have c2 := (B2.out) hb
          clear a0 a2
          go_wp2_with fail
          go_ret2
          exact ⟨rfl, hb⟩
      · rw [if_neg (fun h => hk h.1)] at hnv
        rw [hnv]
        have hkn : (k != 1) = true := by simp [hk]
        clear hnv CC B2 a2
        go_enter Tryz.func59, Tryz.ntmps59
        go_wp2_with fail
        go_ret2
        exact ⟨rfl, Below.refl _ _⟩
    · have hv : tkV l (i : Int) = ((8, 0), ⟨#[]⟩, ⟨#[]⟩) := by unfold tkV; rw [if_neg hn]; simp [List.getD, hi]
      rw [hv, if_neg (by simp)] at hnv
      rw [hnv]
      obtain ⟨ao, cap, rfl⟩ : ∃ ao cap, v = .slice ao l.length cap := by
        rcases h.val with ⟨h0, ao, cap, h⟩ | ⟨b, off, cap, h, _⟩
        · exact ⟨_, _, by rw [h0]; exact h⟩
        · exact ⟨_, _, h⟩
      have hii : ¬ (i : Int) < (l.length : Int) := by omega
      have hi0 : ¬ (i : Int) < 0 := hn
      generalize l.length = n at *
      clear h hv hnv cc hl hn hi
      go_enter Tryz.func59, Tryz.ntmps59
      go_wp2_with fail
      go_ret2
      exact ⟨rfl, Below.refl _ _⟩

end Go.Proofs.YtbnfggnklhfimaaGreatDoor

/- The developers' lines: the closures that take words. -/
namespace Go.Proofs.YtbnfggnklhfimaaGreatDoor
open Go.RowKit

/-- What the words say, in a box. -/
def PaAt (w : World) (b : Nat) (x : PaD) : Prop := w.heap[b]? = some (.cells #[.int .i64 x.next, .int .i64 x.num, .int .i64 x.numAt, .string x.name, .bool x.hasN, .bool x.hasS] 52 (0, 0))

section

variable {w : World} {b : Nat} {x : PaD}

theorem PaAt.lt (h : PaAt w b x) : b < w.heap.size := (Array.getElem?_eq_some_iff.1 h).1

theorem PaAt.c0 (h : PaAt w b x) : w.cell? ⟨b, 0, none⟩ = some (.int .i64 x.next) := by simp [World.cell?, show w.heap[b]? = _ from h]

theorem PaAt.c1 (h : PaAt w b x) : w.cell? ⟨b, 1, none⟩ = some (.int .i64 x.num) := by simp [World.cell?, show w.heap[b]? = _ from h]

theorem PaAt.c2 (h : PaAt w b x) : w.cell? ⟨b, 2, none⟩ = some (.int .i64 x.numAt) := by simp [World.cell?, show w.heap[b]? = _ from h]

theorem PaAt.c3 (h : PaAt w b x) : w.cell? ⟨b, 3, none⟩ = some (.string x.name) := by simp [World.cell?, show w.heap[b]? = _ from h]

theorem PaAt.c4 (h : PaAt w b x) : w.cell? ⟨b, 4, none⟩ = some (.bool x.hasN) := by simp [World.cell?, show w.heap[b]? = _ from h]

theorem PaAt.c5 (h : PaAt w b x) : w.cell? ⟨b, 5, none⟩ = some (.bool x.hasS) := by simp [World.cell?, show w.heap[b]? = _ from h]

theorem PaAt.z (h : PaAt w b x) (i : Nat) : w.frozen? ⟨b, i, none⟩ = false := Lib.frozen_of_heap h i

theorem PaAt.below {w' : World} {B : Nat} (h : PaAt w b x) (hb : Below B w w') (hB : b < B) : PaAt w' b x := (hb.block b hB).trans h

theorem PaAt.other (h : PaAt w b x) {c i : Nat} (hc : b ≠ c) (v : Value) : PaAt (w.setCell ⟨c, i, none⟩ v) b x := (Below.heap_setCell w ⟨c, i, none⟩ v b hc).trans h

theorem PaAt.set0 (h : PaAt w b x) (m : Int) : PaAt (w.setCell ⟨b, 0, none⟩ (.int .i64 m)) b { x with next := m } := cell_put (i := 0) (.int .i64 m) h

theorem PaAt.set1 (h : PaAt w b x) (m : Int) : PaAt (w.setCell ⟨b, 1, none⟩ (.int .i64 m)) b { x with num := m } := cell_put (i := 1) (.int .i64 m) h

theorem PaAt.set2 (h : PaAt w b x) (m : Int) : PaAt (w.setCell ⟨b, 2, none⟩ (.int .i64 m)) b { x with numAt := m } := cell_put (i := 2) (.int .i64 m) h

theorem PaAt.set3 (h : PaAt w b x) (s : ByteArray) : PaAt (w.setCell ⟨b, 3, none⟩ (.string s)) b { x with name := s } := cell_put (i := 3) (.string s) h

theorem PaAt.set4 (h : PaAt w b x) (m : Bool) : PaAt (w.setCell ⟨b, 4, none⟩ (.bool m)) b { x with hasN := m } := cell_put (i := 4) (.bool m) h

theorem PaAt.set5 (h : PaAt w b x) (m : Bool) : PaAt (w.setCell ⟨b, 5, none⟩ (.bool m)) b { x with hasS := m } := cell_put (i := 5) (.bool m) h

end

theorem empty_or7 (s : ByteArray) : s = (⟨#[]⟩ : ByteArray) ∨ (¬ s.toList = [] ∧ ¬ s.size = 0 ∧ s.toList.isEmpty = false) := by
  by_cases h : s.size = 0
  · left
    apply ba_ext'
    have : s.data.toList.length = 0 := by rw [show s.data.toList.length = s.size by simp]; exact h
    rw [List.length_eq_zero_iff.1 this]
  · right
    have hne : ¬ s.toList = [] := fun h0 => h (by
      rw [ByteArray.toList_eq] at h0
      have : s.data.toList.length = 0 := by rw [h0]; rfl
      rw [show s.data.toList.length = s.size by simp] at this
      exact this)
    exact ⟨hne, h, by simpa using hne⟩

def noPa : PaD := ⟨0, 0, 0, ⟨#[]⟩, false, false⟩

/-- What taking words keeps. -/
structure TakeSt (w wr : World) (v : Value) (x : PaD) : Prop where
  box : Boxed wr w.heap.size 29 v
  res : PaAt wr (w.heap.size + 1) noPa
  p : PaAt wr (w.heap.size + 1 + 1) x
  bel : Below w.heap.size w wr

section

variable {w wr w' : World} {v : Value} {x : PaD}

theorem TakeSt.next (h : TakeSt w wr v x) (hb : Below wr.heap.size wr w') : TakeSt w w' v x :=
  ⟨(hb.block _ h.box.lt).trans h.box, h.res.below hb h.res.lt, h.p.below hb h.p.lt, h.bel.trans (hb.mono h.bel.size)⟩

theorem TakeSt.put (h : TakeSt w wr v x) {i : Nat} {u : Value} {y : PaD} (hy : PaAt (wr.setCell ⟨w.heap.size + 1 + 1, i, none⟩ u) (w.heap.size + 1 + 1) y) : TakeSt w (wr.setCell ⟨w.heap.size + 1 + 1, i, none⟩ u) v y :=
  ⟨box_other h.box (by omega) _, h.res.other (by omega) _, hy, h.bel.setCell (p := ⟨w.heap.size + 1 + 1, i, none⟩) (by dsimp only; omega) _⟩

theorem TakeSt.set0 (h : TakeSt w wr v x) (m : Int) : TakeSt w (wr.setCell ⟨w.heap.size + 1 + 1, 0, none⟩ (.int .i64 m)) v { x with next := m } := h.put (h.p.set0 m)

theorem TakeSt.set1 (h : TakeSt w wr v x) (m : Int) : TakeSt w (wr.setCell ⟨w.heap.size + 1 + 1, 1, none⟩ (.int .i64 m)) v { x with num := m } := h.put (h.p.set1 m)

theorem TakeSt.set2 (h : TakeSt w wr v x) (m : Int) : TakeSt w (wr.setCell ⟨w.heap.size + 1 + 1, 2, none⟩ (.int .i64 m)) v { x with numAt := m } := h.put (h.p.set2 m)

theorem TakeSt.set3 (h : TakeSt w wr v x) (m : ByteArray) : TakeSt w (wr.setCell ⟨w.heap.size + 1 + 1, 3, none⟩ (.string m)) v { x with name := m } := h.put (h.p.set3 m)

theorem TakeSt.set4 (h : TakeSt w wr v x) (m : Bool) : TakeSt w (wr.setCell ⟨w.heap.size + 1 + 1, 4, none⟩ (.bool m)) v { x with hasN := m } := h.put (h.p.set4 m)

theorem TakeSt.set5 (h : TakeSt w wr v x) (m : Bool) : TakeSt w (wr.setCell ⟨w.heap.size + 1 + 1, 5, none⟩ (.bool m)) v { x with hasS := m } := h.put (h.p.set5 m)

end

set_option maxRecDepth 100000 in
set_option maxHeartbeats 4000000 in
theorem take1_any (l : List Tk) (v : Value) (w wr : World) (x : PaD) (h : Tks w v l) (hl : Short l) (hs : TakeSt w wr v x) :
    Calls Tryz.prog 55 #[.pointer (some ⟨w.heap.size, 0, none⟩), .pointer (some ⟨w.heap.size + 1 + 1, 0, none⟩)] wr fun e w' => e = .returned (.bool (spanF l x).1) ∧ TakeSt w w' v (spanF l x).2 := by
  have hso : ∀ z ∈ [spanB], z.size ≤ 140737488351232 := by decide +kernel
  have ck := fun b w' (hs : TakeSt w w' v x) ht hb => keyword_any l x.next [spanB] b 1 v w' (h.below hs.bel) hl ht hb rfl (by decide) (fun j hj => by rw [List.getD, List.getElem?_eq_getElem hj]; exact hso _ (List.getElem_mem hj))
  have hq := (Below.refl _ wr).alloc (Nat.le_refl _) (.cells ([spanB].map Value.string).toArray 9)
  have c1 := ck wr.heap.size _ (hs.next hq) (txAt_new wr 9 [spanB]) (by simp)
  have ST1 := hide (hs.next hq)
  have b0 := hs.box.cell
  have p0 := hs.p.c0
  have p5 := hs.p.c5
  have hsp := span_kind l x.next
  have hin : kindL l x.next = 3 → 0 ≤ x.next ∧ x.next < l.length := fun h => kindL_in (by rw [h]; decide)
  have hsf : spanF l x = if kindL l x.next = 3 ∧ x.hasS = false then (true, { x with hasS := true, next := x.next + 1 }) else (false, x) := rfl
  generalize spanF l x = SF at *
  generalize keywV l x.next [spanB] = KV at *
  obtain ⟨k1, k2⟩ := KV
  obtain ⟨ao, n0, cap, rfl⟩ : ∃ ao n cap, v = .slice ao n cap := by
    rcases h.val with ⟨_, ao, cap, h⟩ | ⟨b, off, cap, h, _⟩
    · exact ⟨_, _, _, h⟩
    · exact ⟨_, _, _, h⟩
  have C1 : Hid (Calls Tryz.prog 28 #[.slice ao n0 cap, .int .i64 x.next, .slice (some ⟨wr.heap.size, 0, none⟩) 1 1] (wr.alloc (.cells #[.string ⟨#[115, 112, 97, 110]⟩] 9)) fun e w'' => e = .returned (.tuple #[.int .i64 k1, .int .i64 k2]) ∧ Below (wr.alloc (.cells #[.string ⟨#[115, 112, 97, 110]⟩] 9)).heap.size (wr.alloc (.cells #[.string ⟨#[115, 112, 97, 110]⟩] 9)) w'') := hide c1
  change Hid (TakeSt w (wr.alloc (.cells #[.string ⟨#[115, 112, 97, 110]⟩] 9)) _ _) at ST1
  simp only [Prod.mk.injEq] at hsp
  have HSP := hide hsp
  have HSF := hide hsf
  clear hsf hso ck hq c1 hs h hl hsp
  go_enter Tryz.func55, Tryz.ntmps55
  go_wp2_with fail
  refine Calls.mono C1.out ?_
  rintro e w1 ⟨rfl, hb⟩
  have ST := hide ((ST1.out).next hb)
  have q5 := (ST.out).p.c5
  have q0 := (ST.out).p.c0
  have qz := (ST.out).p.z
  clear hb ST1 C1 b0 p0 p5
  rcases HSP.out with ⟨hk, rfl, rfl⟩ | ⟨hk, rfl, rfl⟩
  · have hi := hin hk
    cases hS : x.hasS
    · obtain rfl : SF = (true, { x with hasS := true, next := x.next + 1 }) := by have hv := HSF.out; rw [if_pos ⟨hk, hS⟩] at hv; exact hv
      rw [hS] at q5
      clear HSF
      have st2 := hide (((ST.out).set5 true).set0 (x.next + 1))
      clear hin HSP hk hi ST
      go_wp2_with fail
      go_ret
      exact ⟨rfl, st2.out⟩
    · obtain rfl : SF = (false, x) := by have hv := HSF.out; rw [if_neg (by rw [hS]; simp)] at hv; exact hv
      rw [hS] at q5
      clear HSF
      clear hin HSP hk hi
      go_wp2_with fail
      go_ret
      exact ⟨rfl, ST.out⟩
  · obtain rfl : SF = (false, x) := by have hv := HSF.out; rw [if_neg (fun h => hk h.1)] at hv; exact hv
    clear hin HSP hk HSF
    go_wp2_with fail
    go_ret
    exact ⟨rfl, ST.out⟩

set_option maxRecDepth 100000 in
set_option maxHeartbeats 4000000 in
theorem take2_any (l : List Tk) (v : Value) (w wr : World) (x : PaD) (h : Tks w v l) (hl : Short l) (hs : TakeSt w wr v x) :
    Calls Tryz.prog 56 #[.pointer (some ⟨w.heap.size, 0, none⟩), .pointer (some ⟨w.heap.size + 1 + 1, 0, none⟩)] wr fun e w' => e = .returned (.bool (numF l x).1) ∧ TakeSt w w' v (numF l x).2 := by
  have c1 := wholeNumber_any l x.next v wr (h.below hs.bel) hl
  have ST1 := hide hs
  have b0 := hs.box.cell
  have p0 := hs.p.c0
  have hkd := wnum_kind l x.next
  have hin : kindL l x.next = 1 → 0 ≤ x.next ∧ x.next < l.length := fun h => kindL_in (by rw [h]; decide)
  have hll := hl.1
  have hsf : numF l x = if kindL l x.next = 1 ∧ x.hasN = false then (true, { x with hasN := true, num := (wnumV l x.next).1, numAt := x.next, next := x.next + 1 }) else (false, x) := rfl
  generalize numF l x = SF at *
  generalize wnumV l x.next = KV at *
  obtain ⟨m, ok⟩ := KV
  obtain ⟨ao, n0, cap, rfl⟩ : ∃ ao n cap, v = .slice ao n cap := by
    rcases h.val with ⟨_, ao, cap, h⟩ | ⟨b, off, cap, h, _⟩
    · exact ⟨_, _, _, h⟩
    · exact ⟨_, _, _, h⟩
  simp only at hkd c1 ⊢
  have C1 := hide c1
  have HSF := hide hsf
  clear hsf c1 hs h hl
  go_enter Tryz.func56, Tryz.ntmps56
  go_wp2_with fail
  refine Calls.mono C1.out ?_
  rintro e w1 ⟨rfl, hb⟩
  have ST := hide ((ST1.out).next hb)
  have q4 := (ST.out).p.c4
  have q0 := (ST.out).p.c0
  have q1 := (ST.out).p.c1
  have q2 := (ST.out).p.c2
  have qz := (ST.out).p.z
  clear hb ST1 C1 b0 p0
  cases ok
  · have hk : ¬ kindL l x.next = 1 := fun h => by have := hkd.2 h; cases this
    obtain rfl : SF = (false, x) := by have hv := HSF.out; rw [if_neg (fun h => hk h.1)] at hv; exact hv
    clear hkd hin hk HSF
    go_wp2_with fail
    go_ret
    exact ⟨rfl, ST.out⟩
  · have hk := hkd.1 rfl
    have hi := hin hk
    have hi1 : x.next + 1 < 9223372036854775807 := by omega
    have hi0 : 0 ≤ x.next := hi.1
    cases hN : x.hasN
    · obtain rfl : SF = (true, { x with hasN := true, num := m, numAt := x.next, next := x.next + 1 }) := by have hv := HSF.out; rw [if_pos ⟨hk, hN⟩] at hv; exact hv
      rw [hN] at q4
      clear HSF
      have st2 := hide (((((ST.out).set4 true).set1 m).set2 x.next).set0 (x.next + 1))
      clear hin hk hkd hi ST
      go_wp2_with fail
      go_ret
      exact ⟨rfl, st2.out⟩
    · obtain rfl : SF = (false, x) := by have hv := HSF.out; rw [if_neg (by rw [hN]; simp)] at hv; exact hv
      rw [hN] at q4
      clear HSF
      clear hin hk hkd hi
      go_wp2_with fail
      go_ret
      exact ⟨rfl, ST.out⟩

set_option maxRecDepth 100000 in
set_option maxHeartbeats 4000000 in
theorem take3_any (l : List Tk) (v : Value) (w wr : World) (x : PaD) (h : Tks w v l) (hl : Short l) (hs : TakeSt w wr v x) :
    Calls Tryz.prog 58 #[.pointer (some ⟨w.heap.size, 0, none⟩), .pointer (some ⟨w.heap.size + 1 + 1, 0, none⟩)] wr fun e w' => e = .returned (.bool (namF l x).1) ∧ TakeSt w w' v (namF l x).2 := by
  have c1 := nameAt_any l x.next v wr (h.below hs.bel) hl
  have ST1 := hide hs
  have b0 := hs.box.cell
  have p0 := hs.p.c0
  have hkd := name_kind l x.next
  have htx := fun h => (name_text (l := l) (i := x.next) h).1
  have hin : kindL l x.next = 2 → 0 ≤ x.next ∧ x.next < l.length := fun h => kindL_in (by rw [h]; decide)
  have hll := hl.1
  have hsf : namF l x = if kindL l x.next = 2 ∧ x.name.size = 0 then (true, { x with name := (tkV l x.next).2.1, next := x.next + 1 }) else (false, x) := rfl
  generalize namF l x = SF at *
  generalize lnmV l x.next = KV at *
  obtain ⟨s, ok⟩ := KV
  obtain ⟨ao, n0, cap, rfl⟩ : ∃ ao n cap, v = .slice ao n cap := by
    rcases h.val with ⟨_, ao, cap, h⟩ | ⟨b, off, cap, h, _⟩
    · exact ⟨_, _, _, h⟩
    · exact ⟨_, _, _, h⟩
  simp only at hkd c1 htx ⊢
  have C1 := hide c1
  have HSF := hide hsf
  clear hsf c1 hs h hl
  go_enter Tryz.func58, Tryz.ntmps58
  go_wp2_with fail
  refine Calls.mono C1.out ?_
  rintro e w1 ⟨rfl, hb⟩
  have ST := hide ((ST1.out).next hb)
  have q3 := (ST.out).p.c3
  have q0 := (ST.out).p.c0
  have qz := (ST.out).p.z
  clear hb ST1 C1 b0 p0
  cases ok
  · have hk : ¬ kindL l x.next = 2 := fun h => by have := hkd.2 h; cases this
    obtain rfl : SF = (false, x) := by have hv := HSF.out; rw [if_neg (fun h => hk h.1)] at hv; exact hv
    clear hkd hin hk htx HSF
    go_wp2_with fail
    go_ret
    exact ⟨rfl, ST.out⟩
  · have hk := hkd.1 rfl
    have hi := hin hk
    have hi1 : x.next + 1 < 9223372036854775807 := by omega
    have hi0 : 0 ≤ x.next := hi.1
    by_cases hN : x.name.size = 0
    · obtain rfl : SF = (true, { x with name := s, next := x.next + 1 }) := by have hv := HSF.out; rw [if_pos ⟨hk, hN⟩, ← htx hk] at hv; exact hv
      clear HSF
      have hne : x.name = ⟨#[]⟩ := by
        have : x.name.data.size = 0 := hN
        rcases hx : x.name with ⟨d⟩
        rw [hx] at this
        simp at this
        rw [this]
      have st2 := hide (((ST.out).set3 s).set0 (x.next + 1))
      rw [hne] at q3
      clear hin hk hkd hi ST htx hN
      go_wp2_with fail
      go_ret
      exact ⟨rfl, st2.out⟩
    · obtain rfl : SF = (false, x) := by have hv := HSF.out; rw [if_neg (fun h => hN h.2)] at hv; exact hv
      clear HSF
      have hne : x.name.toList.isEmpty = false := by
        rcases empty_or7 x.name with h | h
        · exact absurd (by rw [h]; rfl) hN
        · exact h.2.2
      clear hin hk hkd hi htx hN
      go_wp2_with fail
      go_ret
      exact ⟨rfl, ST.out⟩

end Go.Proofs.YtbnfggnklhfimaaGreatDoor

/- The developers' lines: Good. -/
namespace Go.Proofs.YtbnfggnklhfimaaGreatDoor
open Go.RowKit

set_option maxRecDepth 100000 in
set_option maxHeartbeats 8000000 in
theorem good7_any (x : LnD) (w : World) (hs : x.2.size ≤ 2000000) : Calls Tryz.prog 7 #[lnA x] w fun e w' => e = .returned (.bool (goodLn x)) ∧ Below w.heap.size w w' := by
  obtain ⟨⟨k, n⟩, s⟩ := x
  simp only at hs
  have hL := LnAt.new w k n s
  have hb := (Below.refl _ w).alloc (Nat.le_refl _) (.cells #[.int .i64 k, .int .i64 n, .string s] 23)
  have cc := custom_any s (w.alloc (.cells #[.int .i64 k, .int .i64 n, .string s] 23)) hs
  have hgd : goodLn ((k, n), s) = if k = 1 then decide (n = 0) && decide (s.size = 0) else if k = 2 then decide (¬ n = 0) && decide (-10000 ≤ n) && decide (n ≤ 10000) && (decide (s.size = 0) || customV s) else if k = 3 then decide (n = 0) && customV s else if k = 4 then decide (1 ≤ n) && decide (n ≤ 10000) && (decide (s.size = 0) || customV s) else false := rfl
  generalize goodLn ((k, n), s) = GV at *
  generalize customV s = CB at *
  have HGD := hide hgd
  have CC := hide cc
  have HL := hide hL
  have HB := hide hb
  have c2 := hL.c2
  simp only at c2
  unfold lnA
  clear hgd cc hL hb hs
  go_enter Tryz.func7, Tryz.ntmps7
  go_wp2_with fail
  refine Calls.mono CC.out ?_
  rintro e w1 ⟨rfl, hb1⟩
  have hL1 := (HL.out).below hb1 (HL.out).lt
  have d0 := hL1.c0
  have d1 := hL1.c1
  have d2 := hL1.c2
  simp only at d0 d1 d2
  have HB1 := hide ((HB.out).trans (hb1.mono (HB.out).size))
  have HL1 := hide hL1
  have ca : ∀ w, Calls Tryz.prog 18 #[] w fun e w' => e = .returned (.agg #[.int .i64 1, .int .i64 0, .string ⟨#[]⟩]) ∧ Below w.heap.size w w' := fun w => auto_any w
  have CA := hide ca
  clear hb1 hL1 HL HB CC c2 ca
  rcases empty_or7 s with rfl | ⟨hse, hsz, hie⟩
  · rcases eqk k 1 with ⟨h1, h1b⟩ | ⟨h1, h1b⟩
    · subst h1
      clear h1b
      rcases eqk n 0 with ⟨hn, hnb⟩ | ⟨hn, hnb⟩
      · subst hn
        have hv := HGD.out
        simp [show (⟨#[]⟩ : ByteArray).size = 0 from rfl] at hv
        have HV := hide hv
        clear hv HGD
        go_upto_region 5 with fail
        go_region_with (first
          | (go_at_call 18; refine (unhide CA _).mono ?_; rintro e w2 ⟨rfl, hb2⟩; have hb3 : Below w1.heap.size w1 w2 := (Below.refl _ w1).drew.trans hb2; have L2 := (HL1.out).below hb3 (HL1.out).lt; have t0 := L2.c0; have t1 := L2.c1; have t2 := L2.c2; simp only at t0 t1 t2; have HB2 := hide ((HB1.out).trans (hb3.mono (HB1.out).size)); clear hb2 hb3 L2))
        all_goals (
          go_wp2_with fail
          go_ret
          first | exact ⟨by rw [HV.out] <;> rfl, HB2.out⟩ | exact ⟨by rw [HV.out] <;> rfl, (HB2.out).drew⟩)
      · have hv := HGD.out
        simp [hn] at hv
        have HV := hide hv
        clear hv HGD
        go_upto_region 5 with fail
        go_region_with (first
          | (go_at_call 18; refine (unhide CA _).mono ?_; rintro e w2 ⟨rfl, hb2⟩; have hb3 : Below w1.heap.size w1 w2 := (Below.refl _ w1).drew.trans hb2; have L2 := (HL1.out).below hb3 (HL1.out).lt; have t0 := L2.c0; have t1 := L2.c1; have t2 := L2.c2; simp only at t0 t1 t2; have HB2 := hide ((HB1.out).trans (hb3.mono (HB1.out).size)); clear hb2 hb3 L2))
        all_goals (
          go_wp2_with fail
          go_ret
          first | exact ⟨by rw [HV.out] <;> rfl, HB2.out⟩ | exact ⟨by rw [HV.out] <;> rfl, (HB2.out).drew⟩)
    · rcases eqk k 2 with ⟨h2, h2b⟩ | ⟨h2, h2b⟩
      · subst h2
        clear h2b
        rcases eqk n 0 with ⟨hn, hnb⟩ | ⟨hn, hnb⟩
        · subst hn
          have hv := HGD.out
          simp at hv
          have HV := hide hv
          clear hv HGD
          go_wp2_with fail
          go_ret
          exact ⟨by rw [HV.out] <;> rfl, HB1.out⟩
        · have hnn : (n != 0) = true := by rw [bne, hnb]; rfl
          by_cases hlo : -10000 ≤ n
          · by_cases hhi : n ≤ 10000
            · have hv := HGD.out
              simp [hn, hlo, hhi, show (⟨#[]⟩ : ByteArray).size = 0 from rfl] at hv
              have HV := hide hv
              clear hv HGD
              go_wp2_with fail
              go_ret
              exact ⟨by rw [HV.out] <;> rfl, HB1.out⟩
            · have hv := HGD.out
              simp [hhi] at hv
              have HV := hide hv
              clear hv HGD
              go_wp2_with fail
              go_ret
              exact ⟨by rw [HV.out] <;> rfl, HB1.out⟩
          · have hv := HGD.out
            simp [hlo] at hv
            have HV := hide hv
            clear hv HGD
            go_wp2_with fail
            go_ret
            exact ⟨by rw [HV.out] <;> rfl, HB1.out⟩
      · rcases eqk k 3 with ⟨h3, h3b⟩ | ⟨h3, h3b⟩
        · subst h3
          clear h3b
          rcases eqk n 0 with ⟨hn, hnb⟩ | ⟨hn, hnb⟩
          · subst hn
            cases CB
            · have hv := HGD.out
              simp at hv
              have HV := hide hv
              clear hv HGD
              go_wp2_with fail
              go_ret
              exact ⟨by rw [HV.out] <;> rfl, HB1.out⟩
            · have hv := HGD.out
              simp at hv
              have HV := hide hv
              clear hv HGD
              go_wp2_with fail
              go_ret
              exact ⟨by rw [HV.out] <;> rfl, HB1.out⟩
          · have hv := HGD.out
            simp [hn] at hv
            have HV := hide hv
            clear hv HGD
            go_wp2_with fail
            go_ret
            exact ⟨by rw [HV.out] <;> rfl, HB1.out⟩
        · rcases eqk k 4 with ⟨h4, h4b⟩ | ⟨h4, h4b⟩
          · subst h4
            clear h4b
            by_cases hlo : 1 ≤ n
            · by_cases hhi : n ≤ 10000
              · have hv := HGD.out
                simp [hlo, hhi, show (⟨#[]⟩ : ByteArray).size = 0 from rfl] at hv
                have HV := hide hv
                clear hv HGD
                go_wp2_with fail
                go_ret
                exact ⟨by rw [HV.out] <;> rfl, HB1.out⟩
              · have hv := HGD.out
                simp [hhi] at hv
                have HV := hide hv
                clear hv HGD
                go_wp2_with fail
                go_ret
                exact ⟨by rw [HV.out] <;> rfl, HB1.out⟩
            · have hv := HGD.out
              simp [hlo] at hv
              have HV := hide hv
              clear hv HGD
              go_wp2_with fail
              go_ret
              exact ⟨by rw [HV.out] <;> rfl, HB1.out⟩
          · have hv := HGD.out
            simp [h1, h2, h3, h4] at hv
            have HV := hide hv
            clear hv HGD
            go_wp2_with fail
            go_ret
            exact ⟨by rw [HV.out] <;> rfl, HB1.out⟩
  · rcases eqk k 1 with ⟨h1, h1b⟩ | ⟨h1, h1b⟩
    · subst h1
      clear h1b
      rcases eqk n 0 with ⟨hn, hnb⟩ | ⟨hn, hnb⟩
      · subst hn
        have hv := HGD.out
        simp [hsz] at hv
        have HV := hide hv
        clear hv HGD
        go_upto_region 5 with fail
        go_region_with (first
          | (go_at_call 18; refine (unhide CA _).mono ?_; rintro e w2 ⟨rfl, hb2⟩; have hb3 : Below w1.heap.size w1 w2 := (Below.refl _ w1).drew.trans hb2; have L2 := (HL1.out).below hb3 (HL1.out).lt; have t0 := L2.c0; have t1 := L2.c1; have t2 := L2.c2; simp only at t0 t1 t2; have HB2 := hide ((HB1.out).trans (hb3.mono (HB1.out).size)); clear hb2 hb3 L2))
        all_goals (
          go_wp2_with fail
          go_ret
          first | exact ⟨by rw [HV.out] <;> rfl, HB2.out⟩ | exact ⟨by rw [HV.out] <;> rfl, (HB2.out).drew⟩)
      · have hv := HGD.out
        simp [hn] at hv
        have HV := hide hv
        clear hv HGD
        go_upto_region 5 with fail
        go_region_with (first
          | (go_at_call 18; refine (unhide CA _).mono ?_; rintro e w2 ⟨rfl, hb2⟩; have hb3 : Below w1.heap.size w1 w2 := (Below.refl _ w1).drew.trans hb2; have L2 := (HL1.out).below hb3 (HL1.out).lt; have t0 := L2.c0; have t1 := L2.c1; have t2 := L2.c2; simp only at t0 t1 t2; have HB2 := hide ((HB1.out).trans (hb3.mono (HB1.out).size)); clear hb2 hb3 L2))
        all_goals (
          go_wp2_with fail
          go_ret
          first | exact ⟨by rw [HV.out] <;> rfl, HB2.out⟩ | exact ⟨by rw [HV.out] <;> rfl, (HB2.out).drew⟩)
    · rcases eqk k 2 with ⟨h2, h2b⟩ | ⟨h2, h2b⟩
      · subst h2
        clear h2b
        rcases eqk n 0 with ⟨hn, hnb⟩ | ⟨hn, hnb⟩
        · subst hn
          have hv := HGD.out
          simp at hv
          have HV := hide hv
          clear hv HGD
          go_wp2_with fail
          go_ret
          exact ⟨by rw [HV.out] <;> rfl, HB1.out⟩
        · have hnn : (n != 0) = true := by rw [bne, hnb]; rfl
          by_cases hlo : -10000 ≤ n
          · by_cases hhi : n ≤ 10000
            · cases CB
              · have hv := HGD.out
                simp [hn, hlo, hhi, hsz] at hv
                have HV := hide hv
                clear hv HGD
                go_wp2_with fail
                go_ret
                exact ⟨by rw [HV.out] <;> rfl, HB1.out⟩
              · have hv := HGD.out
                simp [hn, hlo, hhi] at hv
                have HV := hide hv
                clear hv HGD
                go_wp2_with fail
                go_ret
                exact ⟨by rw [HV.out] <;> rfl, HB1.out⟩
            · have hv := HGD.out
              simp [hhi] at hv
              have HV := hide hv
              clear hv HGD
              go_wp2_with fail
              go_ret
              exact ⟨by rw [HV.out] <;> rfl, HB1.out⟩
          · have hv := HGD.out
            simp [hlo] at hv
            have HV := hide hv
            clear hv HGD
            go_wp2_with fail
            go_ret
            exact ⟨by rw [HV.out] <;> rfl, HB1.out⟩
      · rcases eqk k 3 with ⟨h3, h3b⟩ | ⟨h3, h3b⟩
        · subst h3
          clear h3b
          rcases eqk n 0 with ⟨hn, hnb⟩ | ⟨hn, hnb⟩
          · subst hn
            cases CB
            · have hv := HGD.out
              simp at hv
              have HV := hide hv
              clear hv HGD
              go_wp2_with fail
              go_ret
              exact ⟨by rw [HV.out] <;> rfl, HB1.out⟩
            · have hv := HGD.out
              simp at hv
              have HV := hide hv
              clear hv HGD
              go_wp2_with fail
              go_ret
              exact ⟨by rw [HV.out] <;> rfl, HB1.out⟩
          · have hv := HGD.out
            simp [hn] at hv
            have HV := hide hv
            clear hv HGD
            go_wp2_with fail
            go_ret
            exact ⟨by rw [HV.out] <;> rfl, HB1.out⟩
        · rcases eqk k 4 with ⟨h4, h4b⟩ | ⟨h4, h4b⟩
          · subst h4
            clear h4b
            by_cases hlo : 1 ≤ n
            · by_cases hhi : n ≤ 10000
              · cases CB
                · have hv := HGD.out
                  simp [hlo, hhi, hsz] at hv
                  have HV := hide hv
                  clear hv HGD
                  go_wp2_with fail
                  go_ret
                  exact ⟨by rw [HV.out] <;> rfl, HB1.out⟩
                · have hv := HGD.out
                  simp [hlo, hhi] at hv
                  have HV := hide hv
                  clear hv HGD
                  go_wp2_with fail
                  go_ret
                  exact ⟨by rw [HV.out] <;> rfl, HB1.out⟩
              · have hv := HGD.out
                simp [hhi] at hv
                have HV := hide hv
                clear hv HGD
                go_wp2_with fail
                go_ret
                exact ⟨by rw [HV.out] <;> rfl, HB1.out⟩
            · have hv := HGD.out
              simp [hlo] at hv
              have HV := hide hv
              clear hv HGD
              go_wp2_with fail
              go_ret
              exact ⟨by rw [HV.out] <;> rfl, HB1.out⟩
          · have hv := HGD.out
            simp [h1, h2, h3, h4] at hv
            have HV := hide hv
            clear hv HGD
            go_wp2_with fail
            go_ret
            exact ⟨by rw [HV.out] <;> rfl, HB1.out⟩

end Go.Proofs.YtbnfggnklhfimaaGreatDoor

/- Whether a line may be, and its text, by the document's own way. -/
namespace Go.Proofs.YtbnfggnklhfimaaGreatDoor
open Go.RowKit

theorem empty_or (s : ByteArray) : s = (⟨#[]⟩ : ByteArray) ∨ (¬ s.toList = [] ∧ ¬ s.size = 0 ∧ s.toList.isEmpty = false) := by
  by_cases h : s.size = 0
  · left
    apply ba_ext'
    have : s.data.toList.length = 0 := by rw [show s.data.toList.length = s.size by simp]; exact h
    rw [List.length_eq_zero_iff.1 this]
  · right
    have hne : ¬ s.toList = [] := fun h0 => h (by
      rw [ByteArray.toList_eq] at h0
      have : s.data.toList.length = 0 := by rw [h0]; rfl
      rw [show s.data.toList.length = s.size by simp] at this
      exact this)
    exact ⟨hne, h, by simpa using hne⟩

set_option maxRecDepth 100000 in
set_option maxHeartbeats 8000000 in
theorem rgood7_any (x : LnD) (w : World) (hs : x.2.size ≤ 2000000) : Calls Tryz.prog 8 #[lnA x] w fun e w' => e = .returned (.bool (goodLn x)) ∧ Below w.heap.size w w' := by
  obtain ⟨⟨k, n⟩, s⟩ := x
  simp only at hs
  have hL := LnAt.new w k n s
  have hb := (Below.refl _ w).alloc (Nat.le_refl _) (.cells #[.int .i64 k, .int .i64 n, .string s] 23)
  have cc := rcustom_any s (w.alloc (.cells #[.int .i64 k, .int .i64 n, .string s] 23)) hs
  have hgd : goodLn ((k, n), s) = if k = 1 then decide (n = 0) && decide (s.size = 0) else if k = 2 then decide (¬ n = 0) && decide (-10000 ≤ n) && decide (n ≤ 10000) && (decide (s.size = 0) || customV s) else if k = 3 then decide (n = 0) && customV s else if k = 4 then decide (1 ≤ n) && decide (n ≤ 10000) && (decide (s.size = 0) || customV s) else false := rfl
  generalize goodLn ((k, n), s) = GV at *
  generalize customV s = CB at *
  have HGD := hide hgd
  have CC := hide cc
  have HL := hide hL
  have HB := hide hb
  have c2 := hL.c2
  simp only at c2
  unfold lnA
  clear hgd cc hL hb hs
  go_enter Tryz.func8, Tryz.ntmps8
  go_wp2_with fail
  refine Calls.mono CC.out ?_
  rintro e w1 ⟨rfl, hb1⟩
  have hL1 := (HL.out).below hb1 (HL.out).lt
  have d0 := hL1.c0
  have d1 := hL1.c1
  have d2 := hL1.c2
  simp only at d0 d1 d2
  have HB1 := hide ((HB.out).trans (hb1.mono (HB.out).size))
  clear hb1 hL1 HL HB CC c2
  rcases empty_or s with rfl | ⟨hse, hsz, hie⟩
  · rcases eqk k 1 with ⟨h1, h1b⟩ | ⟨h1, h1b⟩
    · subst h1
      clear h1b
      rcases eqk n 0 with ⟨hn, hnb⟩ | ⟨hn, hnb⟩
      · subst hn
        have hv := HGD.out
        simp [show (⟨#[]⟩ : ByteArray).size = 0 from rfl] at hv
        have HV := hide hv
        clear hv HGD
        go_wp2_with fail
        go_ret
        exact ⟨by rw [HV.out] <;> rfl, HB1.out⟩
      · have hv := HGD.out
        simp [hn] at hv
        have HV := hide hv
        clear hv HGD
        go_wp2_with fail
        go_ret
        exact ⟨by rw [HV.out] <;> rfl, HB1.out⟩
    · rcases eqk k 2 with ⟨h2, h2b⟩ | ⟨h2, h2b⟩
      · subst h2
        clear h2b
        rcases eqk n 0 with ⟨hn, hnb⟩ | ⟨hn, hnb⟩
        · subst hn
          have hv := HGD.out
          simp at hv
          have HV := hide hv
          clear hv HGD
          go_wp2_with fail
          go_ret
          exact ⟨by rw [HV.out] <;> rfl, HB1.out⟩
        · have hnn : (n != 0) = true := by rw [bne, hnb]; rfl
          by_cases hlo : -10000 ≤ n
          · by_cases hhi : n ≤ 10000
            · have hv := HGD.out
              simp [hn, hlo, hhi, show (⟨#[]⟩ : ByteArray).size = 0 from rfl] at hv
              have HV := hide hv
              clear hv HGD
              go_wp2_with fail
              go_ret
              exact ⟨by rw [HV.out] <;> rfl, HB1.out⟩
            · have hv := HGD.out
              simp [hhi] at hv
              have HV := hide hv
              clear hv HGD
              go_wp2_with fail
              go_ret
              exact ⟨by rw [HV.out] <;> rfl, HB1.out⟩
          · have hv := HGD.out
            simp [hlo] at hv
            have HV := hide hv
            clear hv HGD
            go_wp2_with fail
            go_ret
            exact ⟨by rw [HV.out] <;> rfl, HB1.out⟩
      · rcases eqk k 3 with ⟨h3, h3b⟩ | ⟨h3, h3b⟩
        · subst h3
          clear h3b
          rcases eqk n 0 with ⟨hn, hnb⟩ | ⟨hn, hnb⟩
          · subst hn
            cases CB
            · have hv := HGD.out
              simp at hv
              have HV := hide hv
              clear hv HGD
              go_wp2_with fail
              go_ret
              exact ⟨by rw [HV.out] <;> rfl, HB1.out⟩
            · have hv := HGD.out
              simp at hv
              have HV := hide hv
              clear hv HGD
              go_wp2_with fail
              go_ret
              exact ⟨by rw [HV.out] <;> rfl, HB1.out⟩
          · have hv := HGD.out
            simp [hn] at hv
            have HV := hide hv
            clear hv HGD
            go_wp2_with fail
            go_ret
            exact ⟨by rw [HV.out] <;> rfl, HB1.out⟩
        · rcases eqk k 4 with ⟨h4, h4b⟩ | ⟨h4, h4b⟩
          · subst h4
            clear h4b
            by_cases hlo : 1 ≤ n
            · by_cases hhi : n ≤ 10000
              · have hv := HGD.out
                simp [hlo, hhi, show (⟨#[]⟩ : ByteArray).size = 0 from rfl] at hv
                have HV := hide hv
                clear hv HGD
                go_wp2_with fail
                go_ret
                exact ⟨by rw [HV.out] <;> rfl, HB1.out⟩
              · have hv := HGD.out
                simp [hhi] at hv
                have HV := hide hv
                clear hv HGD
                go_wp2_with fail
                go_ret
                exact ⟨by rw [HV.out] <;> rfl, HB1.out⟩
            · have hv := HGD.out
              simp [hlo] at hv
              have HV := hide hv
              clear hv HGD
              go_wp2_with fail
              go_ret
              exact ⟨by rw [HV.out] <;> rfl, HB1.out⟩
          · have hv := HGD.out
            simp [h1, h2, h3, h4] at hv
            have HV := hide hv
            clear hv HGD
            go_wp2_with fail
            go_ret
            exact ⟨by rw [HV.out] <;> rfl, HB1.out⟩
  · rcases eqk k 1 with ⟨h1, h1b⟩ | ⟨h1, h1b⟩
    · subst h1
      clear h1b
      rcases eqk n 0 with ⟨hn, hnb⟩ | ⟨hn, hnb⟩
      · subst hn
        have hv := HGD.out
        simp [hsz] at hv
        have HV := hide hv
        clear hv HGD
        go_wp2_with fail
        go_ret
        exact ⟨by rw [HV.out] <;> rfl, HB1.out⟩
      · have hv := HGD.out
        simp [hn] at hv
        have HV := hide hv
        clear hv HGD
        go_wp2_with fail
        go_ret
        exact ⟨by rw [HV.out] <;> rfl, HB1.out⟩
    · rcases eqk k 2 with ⟨h2, h2b⟩ | ⟨h2, h2b⟩
      · subst h2
        clear h2b
        rcases eqk n 0 with ⟨hn, hnb⟩ | ⟨hn, hnb⟩
        · subst hn
          have hv := HGD.out
          simp at hv
          have HV := hide hv
          clear hv HGD
          go_wp2_with fail
          go_ret
          exact ⟨by rw [HV.out] <;> rfl, HB1.out⟩
        · have hnn : (n != 0) = true := by rw [bne, hnb]; rfl
          by_cases hlo : -10000 ≤ n
          · by_cases hhi : n ≤ 10000
            · cases CB
              · have hv := HGD.out
                simp [hn, hlo, hhi, hsz] at hv
                have HV := hide hv
                clear hv HGD
                go_wp2_with fail
                go_ret
                exact ⟨by rw [HV.out] <;> rfl, HB1.out⟩
              · have hv := HGD.out
                simp [hn, hlo, hhi] at hv
                have HV := hide hv
                clear hv HGD
                go_wp2_with fail
                go_ret
                exact ⟨by rw [HV.out] <;> rfl, HB1.out⟩
            · have hv := HGD.out
              simp [hhi] at hv
              have HV := hide hv
              clear hv HGD
              go_wp2_with fail
              go_ret
              exact ⟨by rw [HV.out] <;> rfl, HB1.out⟩
          · have hv := HGD.out
            simp [hlo] at hv
            have HV := hide hv
            clear hv HGD
            go_wp2_with fail
            go_ret
            exact ⟨by rw [HV.out] <;> rfl, HB1.out⟩
      · rcases eqk k 3 with ⟨h3, h3b⟩ | ⟨h3, h3b⟩
        · subst h3
          clear h3b
          rcases eqk n 0 with ⟨hn, hnb⟩ | ⟨hn, hnb⟩
          · subst hn
            cases CB
            · have hv := HGD.out
              simp at hv
              have HV := hide hv
              clear hv HGD
              go_wp2_with fail
              go_ret
              exact ⟨by rw [HV.out] <;> rfl, HB1.out⟩
            · have hv := HGD.out
              simp at hv
              have HV := hide hv
              clear hv HGD
              go_wp2_with fail
              go_ret
              exact ⟨by rw [HV.out] <;> rfl, HB1.out⟩
          · have hv := HGD.out
            simp [hn] at hv
            have HV := hide hv
            clear hv HGD
            go_wp2_with fail
            go_ret
            exact ⟨by rw [HV.out] <;> rfl, HB1.out⟩
        · rcases eqk k 4 with ⟨h4, h4b⟩ | ⟨h4, h4b⟩
          · subst h4
            clear h4b
            by_cases hlo : 1 ≤ n
            · by_cases hhi : n ≤ 10000
              · cases CB
                · have hv := HGD.out
                  simp [hlo, hhi, hsz] at hv
                  have HV := hide hv
                  clear hv HGD
                  go_wp2_with fail
                  go_ret
                  exact ⟨by rw [HV.out] <;> rfl, HB1.out⟩
                · have hv := HGD.out
                  simp [hlo, hhi] at hv
                  have HV := hide hv
                  clear hv HGD
                  go_wp2_with fail
                  go_ret
                  exact ⟨by rw [HV.out] <;> rfl, HB1.out⟩
              · have hv := HGD.out
                simp [hhi] at hv
                have HV := hide hv
                clear hv HGD
                go_wp2_with fail
                go_ret
                exact ⟨by rw [HV.out] <;> rfl, HB1.out⟩
            · have hv := HGD.out
              simp [hlo] at hv
              have HV := hide hv
              clear hv HGD
              go_wp2_with fail
              go_ret
              exact ⟨by rw [HV.out] <;> rfl, HB1.out⟩
          · have hv := HGD.out
            simp [h1, h2, h3, h4] at hv
            have HV := hide hv
            clear hv HGD
            go_wp2_with fail
            go_ret
            exact ⟨by rw [HV.out] <;> rfl, HB1.out⟩

/-- A line's text. -/
def textLn (x : LnD) : ByteArray :=
  if goodLn x = false then ⟨#[]⟩
  else if x.1.1 = 1 then ⟨#[97, 117, 116, 111]⟩
  else if x.1.1 = 3 then writeV x.2
  else if x.1.1 = 2 then if (writeV x.2).size = 0 then textV x.1.2 1 else textV x.1.2 1 ++ ⟨#[32]⟩ ++ writeV x.2
  else if (writeV x.2).size = 0 then (⟨#[115, 112, 97, 110, 32]⟩ : ByteArray) ++ textV x.1.2 1
  else if x.1.2 = 1 then (⟨#[115, 112, 97, 110, 32]⟩ : ByteArray) ++ writeV x.2
  else (⟨#[115, 112, 97, 110, 32]⟩ : ByteArray) ++ textV x.1.2 1 ++ ⟨#[32]⟩ ++ writeV x.2

theorem write_size {s : ByteArray} (h : s.size ≤ 2000000) : (writeV s).size ≤ 16000000 := by
  unfold writeV
  split
  · have := eb_len (g := wB s) (fun k => wB_size s k) s.size
    show (eb (wB s) s.size).toArray.size ≤ _
    simp
    omega
  · exact Nat.le_of_ble_eq_true rfl

theorem goodLn_kinds {x : LnD} (h : goodLn x = true) : x.1.1 = 1 ∨ x.1.1 = 2 ∨ x.1.1 = 3 ∨ x.1.1 = 4 := by
  unfold goodLn at h
  by_cases h1 : x.1.1 = 1
  · exact .inl h1
  · by_cases h2 : x.1.1 = 2
    · exact .inr (.inl h2)
    · by_cases h3 : x.1.1 = 3
      · exact .inr (.inr (.inl h3))
      · by_cases h4 : x.1.1 = 4
        · exact .inr (.inr (.inr h4))
        · simp [h1, h2, h3, h4] at h

theorem goodLn_num {x : LnD} (h : goodLn x = true) : -10000 ≤ x.1.2 ∧ x.1.2 ≤ 10000 := by
  unfold goodLn at h
  by_cases h1 : x.1.1 = 1
  · simp [h1] at h; omega
  · by_cases h2 : x.1.1 = 2
    · simp [h2] at h; omega
    · by_cases h3 : x.1.1 = 3
      · simp [h3] at h; omega
      · by_cases h4 : x.1.1 = 4
        · simp [h4] at h; omega
        · simp [h1, h2, h3, h4] at h

end Go.Proofs.YtbnfggnklhfimaaGreatDoor

/- A line's text, and that of two, by the document's own way. -/
namespace Go.Proofs.YtbnfggnklhfimaaGreatDoor
open Go.RowKit

theorem txt_small {n : Int} (h0 : -10000 ≤ n) (h1 : n ≤ 10000) : (textV n 1).size ≤ 30 := (text_back (sc := 1) (by decide) (show isLen n = true by simp [isLen]; omega)).2.2

set_option maxRecDepth 100000 in
set_option maxHeartbeats 8000000 in
theorem rtext7_any (x : LnD) (w : World) (hs : x.2.size ≤ 2000000) : Calls Tryz.prog 10 #[lnA x] w fun e w' => e = .returned (.string (textLn x)) ∧ Below w.heap.size w w' := by
  have hgk := @goodLn_kinds x
  have hgn := @goodLn_num x
  have hws := write_size hs
  have htx : textLn x = if goodLn x = false then ⟨#[]⟩
    else if x.1.1 = 1 then ⟨#[97, 117, 116, 111]⟩
    else if x.1.1 = 3 then writeV x.2
    else if x.1.1 = 2 then if (writeV x.2).size = 0 then textV x.1.2 1 else textV x.1.2 1 ++ ⟨#[32]⟩ ++ writeV x.2
    else if (writeV x.2).size = 0 then (⟨#[115, 112, 97, 110, 32]⟩ : ByteArray) ++ textV x.1.2 1
    else if x.1.2 = 1 then (⟨#[115, 112, 97, 110, 32]⟩ : ByteArray) ++ writeV x.2
    else (⟨#[115, 112, 97, 110, 32]⟩ : ByteArray) ++ textV x.1.2 1 ++ ⟨#[32]⟩ ++ writeV x.2 := rfl
  have hts : goodLn x = true → (textV x.1.2 1).size ≤ 30 := fun h => txt_small (hgn h).1 (hgn h).2
  obtain ⟨⟨k, n⟩, s⟩ := x
  simp only at hs hgk hgn hws htx hts
  have hL := LnAt.new w k n s
  have hb := (Below.refl _ w).alloc (Nat.le_refl _) (.cells #[.int .i64 k, .int .i64 n, .string s] 23)
  have cg := rgood7_any ((k, n), s) (w.alloc (.cells #[.int .i64 k, .int .i64 n, .string s] 23)) hs
  have ct := fun w => rtext_any n 1 w
  have cw : ∀ w, Calls Tryz.prog 24 #[.string s] w fun e w' => e = .returned (.string (writeV s)) ∧ Below w.heap.size w w' := fun w => (rwrite_any s w hs).mono fun _ _ h => ⟨h.1, h.2 ▸ Below.refl _ _⟩
  generalize textLn ((k, n), s) = TL at *
  generalize goodLn ((k, n), s) = GB at *
  generalize textV n 1 = TN at *
  generalize writeV s = TW at *
  have HTX := hide htx
  have CG := hide cg
  have CT := hide ct
  have CW := hide cw
  have HL := hide hL
  have HB := hide hb
  have c0 := hL.c0
  have c1 := hL.c1
  have c2 := hL.c2
  simp only at c0 c1 c2
  unfold lnA at CG ⊢
  clear htx cg ct cw hL hb hs
  go_enter Tryz.func10, Tryz.ntmps10
  go_wp2_with fail
  refine Calls.mono CG.out ?_
  rintro e w1 ⟨rfl, hb1⟩
  have HL1 := hide ((HL.out).below hb1 (HL.out).lt)
  have HB1 := hide ((HB.out).trans (hb1.mono (HB.out).size))
  clear hb1 HL HB CG c0 c1 c2
  cases GB
  · have hv := HTX.out
    rw [if_pos rfl] at hv
    have HV := hide hv
    clear hv HTX CT CW
    go_wp2_with fail
    go_ret
    exact ⟨by rw [HV.out] <;> rfl, HB1.out⟩
  · have htx := HTX.out
    rw [if_neg (by simp)] at htx
    have HTX2 := hide htx
    have hk := hgk rfl
    have hts := hts rfl
    have d0 := (HL1.out).c0
    have d1 := (HL1.out).c1
    have d2 := (HL1.out).c2
    simp only at d0 d1 d2
    clear htx HTX hgk hgn
    go_wp2_with fail
    refine Calls.mono (unhide CT _) ?_
    rintro e w2 ⟨rfl, hb⟩
    have HL2 := hide ((HL1.out).below hb (HL1.out).lt)
    have HB2 := hide ((HB1.out).trans (hb.mono (HB1.out).size))
    have e0 := (HL2.out).c0
    have e1 := (HL2.out).c1
    have e2 := (HL2.out).c2
    simp only at e0 e1 e2
    clear hb HL1 HB1 CT d0 d1 d2
    go_wp2_with fail
    refine Calls.mono (unhide CW _) ?_
    rintro e w3 ⟨rfl, hb⟩
    have HL3 := hide ((HL2.out).below hb (HL2.out).lt)
    have HB3 := hide ((HB2.out).trans (hb.mono (HB2.out).size))
    have f0 := (HL3.out).c0
    have f1 := (HL3.out).c1
    have f2 := (HL3.out).c2
    simp only at f0 f1 f2
    clear hb HL2 HB2 CW e0 e1 e2
    rcases hk with rfl | rfl | rfl | rfl
    · have hv := HTX2.out
      simp at hv
      have HV := hide hv
      clear hv HTX2
      go_wp2_with fail
      go_ret
      exact ⟨by rw [HV.out] <;> rfl, HB3.out⟩
    · rcases empty_or TW with rfl | ⟨hse, hsz, hie⟩
      · have hv := HTX2.out
        simp at hv
        have HV := hide hv
        clear hv HTX2
        go_wp2_with fail
        go_ret
        exact ⟨by rw [HV.out] <;> rfl, HB3.out⟩
      · have hv := HTX2.out
        simp [hsz] at hv
        have HV := hide hv
        clear hv HTX2
        go_wp2_with fail
        go_ret
        exact ⟨by rw [HV.out] <;> rfl, HB3.out⟩
    · have hv := HTX2.out
      simp at hv
      have HV := hide hv
      clear hv HTX2
      go_wp2_with fail
      go_ret
      exact ⟨by rw [HV.out] <;> rfl, HB3.out⟩
    · rcases empty_or TW with rfl | ⟨hse, hsz, hie⟩
      · have hv := HTX2.out
        simp at hv
        have HV := hide hv
        clear hv HTX2
        go_wp2_with fail
        go_ret
        exact ⟨by rw [HV.out] <;> rfl, HB3.out⟩
      · rcases eqk n 1 with ⟨hn, hnb⟩ | ⟨hn, hnb⟩
        · subst hn
          have hv := HTX2.out
          simp [hsz] at hv
          have HV := hide hv
          clear hv HTX2
          go_wp2_with fail
          go_ret
          exact ⟨by rw [HV.out] <;> rfl, HB3.out⟩
        · have hv := HTX2.out
          simp [hsz, hn] at hv
          have HV := hide hv
          clear hv HTX2
          go_wp2_with fail
          go_ret
          exact ⟨by rw [HV.out] <;> rfl, HB3.out⟩

end Go.Proofs.YtbnfggnklhfimaaGreatDoor

/- The developers' lines: their texts. -/
namespace Go.Proofs.YtbnfggnklhfimaaGreatDoor
open Go.RowKit

/-- What the tables of this layer say. -/
structure LE (w : World) : Prop where
  mx : MaxAt w
  tz : TZ w
  tab : Tab w

theorem LE.below {w w' : World} (h : LE w) (hb : Below w.heap.size w w') : LE w' := ⟨h.mx.below hb, h.tz.below hb, h.tab.below hb⟩

theorem textOne7 {n : Int} (h0 : -10000 ≤ n) (h1 : n ≤ 10000) : textV n 1 = itB n := by
  have hl : isLen n = true := by simp [isLen]; omega
  have hs : isSc 1 = true := by decide
  unfold textV
  rw [hl, hs, if_neg (by simp), if_neg (by simp)]
  have hx : ∀ (p : ByteArray) (a : Int), txt p a 1 = p ++ itB a := fun p a => by
    unfold txt
    rw [Int.emod_one, if_neg (by omega), tl_zero, Int.ediv_one]
  rw [hx, hx]
  by_cases hn : n < 0
  · rw [if_pos hn]
    apply ba_ext'
    unfold itB Lib.itoa
    rw [if_pos hn, if_neg (by omega)]
    simp
    rw [show (-n).toNat = n.natAbs by omega]
  · rw [if_neg hn]
    apply ba_ext'
    simp

theorem write_nz {s : ByteArray} (h : customV s = true) : ¬ (writeV s).size = 0 := by
  have hn := cuB_name (r := 7) h
  have ht := (tok_write hn).1
  intro h0
  have he : writeV s = ⟨#[]⟩ := by
    rcases empty_or7 (writeV s) with h | h
    · exact h
    · exact absurd h0 h.2.1
  rw [he] at ht
  have h2 : tokV ⟨#[]⟩ = .ok [(⟨8, ⟨#[]⟩, ⟨#[]⟩⟩, 0)] := by kernel_rfl
  rw [h2] at ht
  simp at ht

theorem write_z : (writeV ⟨#[]⟩).size = 0 := by decide +kernel

/-- The text of a number, and of a name. -/
def numT (x : LnD) : ByteArray := if x.2.size = 0 then itB x.1.2 else itB x.1.2 ++ (⟨#[32]⟩ ++ writeV x.2)

def spT (x : LnD) : ByteArray := if x.1.2 = 1 ∧ ¬ x.2.size = 0 then writeV x.2 else numT x

theorem good_name {x : LnD} (hg : goodLn x = true) : (x.2 = ⟨#[]⟩ ∧ (writeV x.2).size = 0) ∨ (¬ x.2.size = 0 ∧ ¬ (writeV x.2).size = 0) := by
  rcases empty_or7 x.2 with h | ⟨_, h, _⟩
  · left; rw [h]; exact ⟨rfl, write_z⟩
  · right
    refine ⟨h, write_nz ?_⟩
    unfold goodLn at hg
    split at hg
    · simp at hg; rw [hg.2] at h; exact absurd rfl h
    · split at hg
      · simp [h] at hg
        exact hg.2
      · split at hg
        · simp at hg; exact hg.2
        · split at hg
          · simp [h] at hg
            exact hg.2
          · cases hg

theorem textLn_dev {x : LnD} (hg : goodLn x = true) : textLn x = if x.1.1 = 2 then numT x else if x.1.1 = 3 then writeV x.2 else if x.1.1 = 4 then ⟨#[115, 112, 97, 110, 32]⟩ ++ spT x else ⟨#[97, 117, 116, 111]⟩ := by
  have hn := goodLn_num hg
  have ho := textOne7 hn.1 hn.2
  have hk := goodLn_kinds hg
  unfold textLn
  rw [hg, if_neg (by simp), ho]
  rcases good_name hg with ⟨h1, h2⟩ | ⟨h1, h2⟩
  · have h0 : x.2.size = 0 := by rw [h1]; rfl
    have h3 : numT x = itB x.1.2 := by unfold numT; rw [if_pos h0]
    have h4 : spT x = itB x.1.2 := by unfold spT; rw [if_neg (fun h => h.2 h0), h3]
    rw [h3, h4]
    rcases hk with hk | hk | hk | hk <;> simp [hk, h2]
  · have h3 : numT x = itB x.1.2 ++ (⟨#[32]⟩ ++ writeV x.2) := by unfold numT; rw [if_neg h1]
    by_cases h5 : x.1.2 = 1
    · have h4 : spT x = writeV x.2 := by unfold spT; rw [if_pos ⟨h5, h1⟩]
      rw [h3, h4]
      rcases hk with hk | hk | hk | hk <;> simp [hk, h2, h5, ByteArray.append_assoc]
    · have h4 : spT x = itB x.1.2 ++ (⟨#[32]⟩ ++ writeV x.2) := by unfold spT; rw [if_neg (fun h => h5 h.1), h3]
      rw [h3, h4]
      rcases hk with hk | hk | hk | hk <;> simp [hk, h2, h5, ByteArray.append_assoc]

theorem itB_small {n : Int} (h0 : -10000 ≤ n) (h1 : n ≤ 10000) : (itB n).size ≤ 30 := by rw [← textOne7 h0 h1]; exact txt_small h0 h1

theorem numT_size {x : LnD} (h0 : -10000 ≤ x.1.2) (h1 : x.1.2 ≤ 10000) (hs : x.2.size ≤ 2000000) : (numT x).size ≤ 20000000 ∧ (spT x).size ≤ 20000000 := by
  have ha := itB_small h0 h1
  have hw := write_size hs
  have e1 : (⟨#[32]⟩ : ByteArray).size = 1 := rfl
  have hn : (numT x).size ≤ 20000000 := by
    unfold numT
    split
    · omega
    · simp only [ByteArray.size_append, e1]; omega
  refine ⟨hn, ?_⟩
  unfold spT
  split
  · omega
  · exact hn

set_option maxRecDepth 100000 in
set_option maxHeartbeats 4000000 in
theorem numbered7_any (x : LnD) (w : World) (hw : LE w) (h0 : -10000 ≤ x.1.2) (h1 : x.1.2 ≤ 10000) (hs : x.2.size ≤ 2000000) :
    Calls Tryz.prog 20 #[lnA x] w fun e w' => e = .returned (.string (numT x)) ∧ Below w.heap.size w w' := by
  have hws := write_size hs
  have his := itB_small h0 h1
  have hnt : numT x = if x.2.size = 0 then itB x.1.2 else itB x.1.2 ++ (⟨#[32]⟩ ++ writeV x.2) := rfl
  obtain ⟨⟨k, n⟩, s⟩ := x
  simp only at hs h0 h1 hws his hnt
  have hL := LnAt.new w k n s
  have hb := (Below.refl _ w).alloc (Nat.le_refl _) (.cells #[.int .i64 k, .int .i64 n, .string s] 23)
  have hE := hw.below hb
  have ci := fun w (h : LE w) => itoa_any n (by omega) (by omega) w h.tab
  have cw := fun w (h : LE w) => write_any s w h.tz
  generalize numT ((k, n), s) = NT at *
  generalize itB n = IT at *
  generalize writeV s = WV at *
  have HNT := hide hnt
  have CI := hide ci
  have CW := hide cw
  have HL := hide hL
  have HB := hide hb
  have HE := hide hE
  have d1 := hL.c1
  simp only at d1
  have hl1 : ¬ 9223372036854775807 < 1 + WV.size := by omega
  have hl2 : ¬ 9223372036854775807 < IT.size + (1 + WV.size) := by omega
  unfold lnA
  clear hnt ci cw hL hb hE hs hw hws his h0 h1
  go_enter Tryz.func20, Tryz.ntmps20
  go_upto_region 1 with fail
  generalize w.alloc (.cells #[.int .i64 k, .int .i64 n, .string s] 23) = w1 at *
  go_wp2_with fail
  refine Calls.mono (unhide CI _ HE.out) ?_
  rintro e w2 ⟨rfl, hb⟩
  have HE2 := hide ((HE.out).below hb)
  have HL2 := hide ((HL.out).below hb (HL.out).lt)
  have HB2 := hide ((HB.out).trans (hb.mono (HB.out).size))
  have d2 := (HL2.out).c2
  simp only at d2
  clear hb d1 HE HL HB CI
  rcases empty_or7 s with rfl | ⟨hne, hsz, hie⟩
  · have hv := HNT.out
    rw [if_pos (show (⟨#[]⟩ : ByteArray).size = 0 from rfl)] at hv
    have HV := hide hv
    clear hv HNT
    go_wp2_with fail
    go_ret
    exact ⟨by rw [HV.out] <;> rfl, HB2.out⟩
  · have hv := HNT.out
    rw [if_neg hsz] at hv
    have HV := hide hv
    clear hv HNT hsz
    go_wp2_with fail
    refine Calls.mono (unhide CW _ HE2.out) ?_
    rintro e w3 ⟨rfl, hb⟩
    have HB3 := hide ((HB2.out).trans (hb.mono (HB2.out).size))
    clear hb d2 HE2 HL2 HB2 CW
    go_wp2_with fail
    go_ret
    exact ⟨by rw [HV.out] <;> rfl, HB3.out⟩

set_option maxRecDepth 100000 in
set_option maxHeartbeats 4000000 in
theorem spanned7_any (x : LnD) (w : World) (hw : LE w) (h0 : -10000 ≤ x.1.2) (h1 : x.1.2 ≤ 10000) (hs : x.2.size ≤ 2000000) :
    Calls Tryz.prog 22 #[lnA x] w fun e w' => e = .returned (.string (spT x)) ∧ Below w.heap.size w w' := by
  have hnt : spT x = if x.1.2 = 1 ∧ ¬ x.2.size = 0 then writeV x.2 else numT x := rfl
  have cn := fun w (h : LE w) => numbered7_any x w h h0 h1 hs
  obtain ⟨⟨k, n⟩, s⟩ := x
  simp only at hs h0 h1 hnt
  have hL := LnAt.new w k n s
  have hb := (Below.refl _ w).alloc (Nat.le_refl _) (.cells #[.int .i64 k, .int .i64 n, .string s] 23)
  have hE := hw.below hb
  have cw := fun w (h : LE w) => write_any s w h.tz
  unfold lnA at cn
  generalize spT ((k, n), s) = ST at *
  generalize numT ((k, n), s) = NT at *
  generalize writeV s = WV at *
  have HNT := hide hnt
  have CN := hide cn
  have CW := hide cw
  have HL := hide hL
  have HB := hide hb
  have HE := hide hE
  have d0 := hL.c0
  have d1 := hL.c1
  have d2 := hL.c2
  simp only at d0 d1 d2
  unfold lnA
  clear hnt cn cw hL hb hE hs hw h0 h1
  go_enter Tryz.func22, Tryz.ntmps22
  go_upto_region 1 with fail
  generalize w.alloc (.cells #[.int .i64 k, .int .i64 n, .string s] 23) = w1 at *
  rcases eqk n 1 with ⟨hn, hnb⟩ | ⟨hn, hnb⟩
  · subst hn
    clear hnb
    rcases empty_or7 s with rfl | ⟨hne, hsz, hie⟩
    · have hv := HNT.out
      rw [if_neg (fun h => h.2 rfl)] at hv
      have HV := hide hv
      clear hv HNT
      go_wp2_with fail
      refine Calls.mono (unhide CN _ HE.out) ?_
      rintro e w2 ⟨rfl, hb⟩
      have HB2 := hide ((HB.out).trans (hb.mono (HB.out).size))
      clear hb d0 d1 d2
      go_wp2_with fail
      go_ret
      exact ⟨by rw [HV.out] <;> rfl, HB2.out⟩
    · have hv := HNT.out
      rw [if_pos ⟨rfl, hsz⟩] at hv
      have HV := hide hv
      clear hv HNT hsz
      go_wp2_with fail
      refine Calls.mono (unhide CW _ HE.out) ?_
      rintro e w2 ⟨rfl, hb⟩
      have HB2 := hide ((HB.out).trans (hb.mono (HB.out).size))
      clear hb d0 d1 d2
      go_wp2_with fail
      go_ret
      exact ⟨by rw [HV.out] <;> rfl, HB2.out⟩
  · have hv := HNT.out
    rw [if_neg (fun h => hn h.1)] at hv
    have HV := hide hv
    clear hv HNT hn
    go_wp2_with fail
    refine Calls.mono (unhide CN _ HE.out) ?_
    rintro e w2 ⟨rfl, hb⟩
    have HB2 := hide ((HB.out).trans (hb.mono (HB.out).size))
    clear hb d0 d1 d2
    go_wp2_with fail
    go_ret
    exact ⟨by rw [HV.out] <;> rfl, HB2.out⟩

set_option maxRecDepth 100000 in
set_option maxHeartbeats 4000000 in
theorem text7_any (x : LnD) (w : World) (hw : LE w) (hs : x.2.size ≤ 2000000) : Calls Tryz.prog 9 #[lnA x] w fun e w' => e = .returned (.string (textLn x)) ∧ Below w.heap.size w w' := by
  have cg := fun w => good7_any x w hs
  have htd := @textLn_dev x
  have htb : goodLn x = false → textLn x = ⟨#[]⟩ := fun h => by unfold textLn; rw [if_pos h]
  have hgn := @goodLn_num x
  have cn := fun (h : goodLn x = true) w (hE : LE w) => numbered7_any x w hE (hgn h).1 (hgn h).2 hs
  have cp := fun (h : goodLn x = true) w (hE : LE w) => spanned7_any x w hE (hgn h).1 (hgn h).2 hs
  have hsz := fun (h : goodLn x = true) => (numT_size (hgn h).1 (hgn h).2 hs).2
  obtain ⟨⟨k, n⟩, s⟩ := x
  have hL := LnAt.new w k n s
  have hb := (Below.refl _ w).alloc (Nat.le_refl _) (.cells #[.int .i64 k, .int .i64 n, .string s] 23)
  have hE := hw.below hb
  have cw := fun w (h : LE w) => write_any s w h.tz
  unfold lnA at cn cg cp
  simp only at htd
  generalize textLn ((k, n), s) = TX at *
  generalize numT ((k, n), s) = NT at *
  generalize spT ((k, n), s) = PT at *
  generalize goodLn ((k, n), s) = GV at *
  generalize writeV s = WV at *
  have CG := hide cg
  have CN := hide cn
  have CP := hide cp
  have CW := hide cw
  have HTD := hide htd
  have HTB := hide htb
  have HSZ := hide hsz
  have HL := hide hL
  have HB := hide hb
  have HE := hide hE
  have d0 := hL.c0
  have d1 := hL.c1
  have d2 := hL.c2
  simp only at d0 d1 d2
  unfold lnA
  clear cg htd htb hgn cn cp cw hsz hL hb hE hs hw
  go_enter Tryz.func9, Tryz.ntmps9
  go_upto_region 1 with fail
  generalize w.alloc (.cells #[.int .i64 k, .int .i64 n, .string s] 23) = w1 at *
  go_wp2_with fail
  refine Calls.mono (unhide CG _) ?_
  rintro e w2 ⟨rfl, hb⟩
  have HE2 := hide ((HE.out).below hb)
  have HL2 := hide ((HL.out).below hb (HL.out).lt)
  have HB2 := hide ((HB.out).trans (hb.mono (HB.out).size))
  clear hb d0 d1 d2 HE HL HB CG
  have d0 := (HL2.out).c0
  have d1 := (HL2.out).c1
  have d2 := (HL2.out).c2
  simp only at d0 d1 d2
  cases GV
  · have hv := (HTB.out) rfl
    have HV := hide hv
    clear hv HTB HTD HSZ CN CP
    go_wp2_with fail
    go_ret
    exact ⟨by rw [HV.out] <;> rfl, HB2.out⟩
  · have hv := (HTD.out) rfl
    have hz := (HSZ.out) rfl
    have cn := (CN.out) rfl
    have cp := (CP.out) rfl
    have CN2 := hide cn
    have CP2 := hide cp
    have hl1 : ¬ 9223372036854775807 < 5 + PT.size := by omega
    clear HTB HTD HSZ CN CP cn cp hz
    rcases eqk k 2 with ⟨h2, h2b⟩ | ⟨h2, h2b⟩
    · subst h2
      rw [if_pos rfl] at hv
      have HV := hide hv
      clear hv h2b
      go_wp2_with fail
      refine Calls.mono (unhide CN2 _ HE2.out) ?_
      rintro e w3 ⟨rfl, hb⟩
      have HB3 := hide ((HB2.out).trans (hb.mono (HB2.out).size))
      clear hb d0 d1 d2
      go_wp2_with fail
      go_ret
      exact ⟨by rw [HV.out] <;> rfl, HB3.out⟩
    · rw [if_neg h2] at hv
      clear h2
      rcases eqk k 3 with ⟨h3, h3b⟩ | ⟨h3, h3b⟩
      · subst h3
        rw [if_pos rfl] at hv
        have HV := hide hv
        clear hv h3b h2b
        go_wp2_with fail
        refine Calls.mono (unhide CW _ HE2.out) ?_
        rintro e w3 ⟨rfl, hb⟩
        have HB3 := hide ((HB2.out).trans (hb.mono (HB2.out).size))
        clear hb d0 d1 d2
        go_wp2_with fail
        go_ret
        exact ⟨by rw [HV.out] <;> rfl, HB3.out⟩
      · rw [if_neg h3] at hv
        clear h3
        rcases eqk k 4 with ⟨h4, h4b⟩ | ⟨h4, h4b⟩
        · subst h4
          rw [if_pos rfl] at hv
          have HV := hide hv
          clear hv h3b h2b h4b
          go_wp2_with fail
          refine Calls.mono (unhide CP2 _ HE2.out) ?_
          rintro e w3 ⟨rfl, hb⟩
          have HB3 := hide ((HB2.out).trans (hb.mono (HB2.out).size))
          clear hb d0 d1 d2
          go_wp2_with fail
          go_ret
          exact ⟨by rw [HV.out] <;> rfl, HB3.out⟩
        · rw [if_neg h4] at hv
          have HV := hide hv
          clear hv h4
          go_wp2_with fail
          go_ret
          exact ⟨by rw [HV.out] <;> rfl, HB2.out⟩

end Go.Proofs.YtbnfggnklhfimaaGreatDoor

/- Words with a blank between, and the words of lines. -/
namespace Go.Proofs.YtbnfggnklhfimaaGreatDoor
open Go.RowKit

/-- Nothing, or a blank and whatever. -/
def Gap (X : List UInt8) : Prop := X = [] ∨ ∃ X', X = 32 :: X'

/-- A text that is one word, if nothing or a blank follows it. -/
structure OneW (p : List UInt8) (t : Wd) : Prop where
  ne : p ≠ []
  word : ∀ (T : ByteArray) (X : List UInt8), T.data.toList = p ++ X → Gap X → wordV T 0 = .ok (t, p.length)
  next : ∀ (T : ByteArray) (X : List UInt8), T.data.toList = p ++ X → Gap X → nextV T (T.size + 1) 0 = .ok (some 0)

theorem Gap.ends {X : List UInt8} (h : Gap X) : Ends X := by
  rcases h with h | ⟨X', h⟩
  · exact .inl h
  · exact .inr ⟨32, X', h, by decide, by decide⟩

theorem Gap.head {X : List UInt8} (h : Gap X) : X.getD 0 0 = 0 ∨ X.getD 0 0 = 32 := by
  rcases h with rfl | ⟨X', rfl⟩
  · exact .inl rfl
  · exact .inr rfl

theorem Gap.hd0 {X : List UInt8} (h : Gap X) (p : UInt8 → Bool) (hp : p 32 = false) : hd p X = false := by
  rcases h with rfl | ⟨X', rfl⟩
  · rfl
  · exact hp

theorem one_name {s : ByteArray} (h : nameB s = true) : OneW (writeV s).data.toList ⟨1, s, noB⟩ := by
  have he : (writeV s).data.toList = eb (wB s) s.size := by unfold writeV; rw [if_pos h]
  have hpos : 0 < s.size := by unfold nameB at h; rw [Bool.and_eq_true] at h; exact of_decide_eq_true h.1
  rw [he]
  refine ⟨fun hh => ?_, fun T X hT hX => ?_, fun T X hT hX => ?_⟩
  · have h1 := eb_ge (wB_pos s) s.size
    have h2 : (eb (wB s) s.size).length = 0 := by rw [hh]; rfl
    omega
  · exact word_write h hT hX.ends (by rcases hX.head with e | e <;> rw [e] <;> decide)
  · have hf := write_first h hT
    exact next_here hf.2.2 hf.1 hf.2.1

theorem one_auto : OneW [97, 117, 116, 111] ⟨1, ⟨#[97, 117, 116, 111]⟩, noB⟩ := by
  have h := one_name (s := ⟨#[97, 117, 116, 111]⟩) (by decide +kernel)
  rw [show writeV ⟨#[97, 117, 116, 111]⟩ = ⟨#[97, 117, 116, 111]⟩ from by kernel_rfl] at h
  exact h

theorem one_span : OneW [115, 112, 97, 110] ⟨1, spanB, noB⟩ := by
  have h := one_name (s := spanB) (by decide +kernel)
  rw [show writeV spanB = spanB from by kernel_rfl] at h
  exact h

theorem one_num {n : Int} (h0 : -10000 ≤ n) (h1 : n ≤ 10000) : OneW (itB n).data.toList ⟨3, noB, itB n⟩ := by
  have hl : isLen n = true := by simp [isLen]; omega
  have hs : isSc 1 = true := by decide
  have ht := textOne7 h0 h1
  have key : ∀ (T : ByteArray) (X : List UInt8), T.data.toList = (itB n).data.toList ++ X → Gap X → scanV T = (itB n).size ∧ 0 < (itB n).size ∧ blT (btT T 0) = false ∧ btT T 0 ≠ 47 := fun T X hT hX => by
    rw [← ht] at hT ⊢
    exact text_scan hs hl hT (hX.hd0 _ (by decide)) (hX.hd0 _ (by decide)) (hX.hd0 _ (by decide))
  refine ⟨fun hh => ?_, fun T X hT hX => ?_, fun T X hT hX => ?_⟩
  · have := (key (itB n) [] (by simp) (.inl rfl)).2.1
    rw [size_len, hh] at this
    simp at this
  · obtain ⟨hsc, hp, _, _⟩ := key T X hT hX
    have hle : (itB n).size ≤ T.size := by rw [size_len T, hT, size_len (itB n)]; simp
    have e : btT T (itB n).size = X.getD 0 0 := by
      unfold btT
      rw [hT, List.getD, List.getElem?_append_right (by simp)]
      simp [List.getD]
    unfold wordV
    rw [ext_zero, if_pos (by omega), hsc]
    unfold numV
    rw [Nat.zero_add]
    have a1 : isAt T (itB n).size 37 = false := by
      unfold isAt
      rw [e]
      exact decide_eq_false fun h => by rcases hX.head with e | e <;> rw [e] at h <;> exact absurd h.2 (by decide)
    have a2 : begV T (itB n).size = false := by
      apply beg_no <;> (rw [e]; rcases hX.head with e | e <;> rw [e] <;> decide)
    rw [a1, if_neg (by simp), a2, if_neg (by simp), ext_left hT, size_len (itB n)]
  · obtain ⟨hsc, hp, hb, h47⟩ := key T X hT hX
    have hle : (itB n).size ≤ T.size := by rw [size_len T, hT, size_len (itB n)]; simp
    exact next_here (by omega) hb h47

theorem one_slash : OneW [47] ⟨7, ⟨#[47]⟩, noB⟩ := by
  have key : ∀ (T : ByteArray) (X : List UInt8), T.data.toList = [47] ++ X → btT T 0 = 47 ∧ 0 < T.size := fun T X hT => by
    refine ⟨by unfold btT; rw [hT]; rfl, by rw [size_len, hT]; simp⟩
  refine ⟨by simp, fun T X hT hX => ?_, fun T X hT hX => ?_⟩
  · have hb := (key T X hT).1
    have a1 : scanV (T.extract 0 T.size) = 0 := scan_at (by rw [hb]; decide)
    have a2 : begV T 0 = false := by apply beg_no <;> (rw [hb]; decide)
    unfold wordV
    rw [a1, if_neg (by omega), a2, if_neg (by simp), hb, if_neg (by decide), if_neg (by decide)]
    rfl
  · have hk := key T X hT
    refine next_word hk.2 (by rw [hk.1]; decide) ?_
    rw [ext_zero, hT]
    rcases hX with rfl | ⟨X', rfl⟩
    · rfl
    · rfl

/-- A word behind other bytes. -/
theorem OneW.at {p : List UInt8} {t : Wd} (h : OneW p t) {T : ByteArray} {A X : List UInt8} (hT : T.data.toList = A ++ (p ++ X)) (hX : Gap X) :
    wordV T A.length = .ok (t, A.length + p.length) ∧ nextV T (T.size + 1) A.length = .ok (some A.length) := by
  have hsz : T.size = A.length + (p.length + X.length) := by rw [size_len, hT]; simp
  have hp : 0 < p.length := by
    cases hp : p with
    | nil => exact absurd hp h.ne
    | cons _ _ => simp
  have he : (T.extract A.length T.size).data.toList = p ++ X := by rw [data_ext, hT, List.drop_left' rfl]
  have hes : (T.extract A.length T.size).size = p.length + X.length := by rw [size_len, he]; simp
  constructor
  · have := word_sh T A.length 0 (by omega)
    rw [h.word _ X he hX, Nat.add_zero] at this
    rw [this]; rfl
  · have := next_sh T A.length (T.size + 1) 0
    rw [next_fuel (T.size + 1) ((T.extract A.length T.size).size + 1) 0 (by omega) (by omega) (by omega), h.next _ X he hX] at this
    simp only [Nat.add_zero] at this
    rw [this]; rfl

/-- Texts with a blank between. -/
def joinW : List (List UInt8) → List UInt8
  | [] => []
  | [p] => p
  | p :: q :: r => p ++ 32 :: joinW (q :: r)

theorem joinW_app : ∀ (a b : List (List UInt8)), a ≠ [] → b ≠ [] → joinW (a ++ b) = joinW a ++ 32 :: joinW b
  | [], _, h, _ => absurd rfl h
  | [p], [], _, h => absurd rfl h
  | [p], q :: r, _, _ => rfl
  | p :: q :: r, b, _, hb => by
    have ih := joinW_app (q :: r) b (by simp) hb
    show p ++ 32 :: joinW (q :: r ++ b) = (p ++ 32 :: joinW (q :: r)) ++ 32 :: joinW b
    rw [ih]
    simp

theorem Rds.blank {T : ByteArray} {k : Nat} {l : List (Wd × Nat)} (hk : k < T.size) (hb : blT (btT T k) = true) (h : Rds T (k + 1) l) : Rds T k l := by
  have e : nextV T (T.size + 1) k = nextV T (T.size + 1) (k + 1) := by
    rw [next_blank hk hb]
    exact next_fuel _ _ _ (by omega) (by omega) (by omega)
  cases h with
  | done hn => exact .done (e.trans hn)
  | step hn hw hr => exact .step (e.trans hn) hw hr

theorem rds_join : ∀ (ps : List (List UInt8 × Wd)), ps ≠ [] → (∀ x ∈ ps, OneW x.1 x.2) → ∀ (T : ByteArray) (A : List UInt8), T.data.toList = A ++ joinW (ps.map (·.1)) → ∃ l, Rds T A.length l ∧ l.map (·.1) = ps.map (·.2)
  | [], h, _, _, _, _ => absurd rfl h
  | [x], _, h, T, A, hT => by
    have ho := h x (by simp)
    have hT' : T.data.toList = A ++ (x.1 ++ []) := by rw [hT]; simp [joinW]
    obtain ⟨h1, h2⟩ := ho.at hT' (.inl rfl)
    have hsz : T.size = A.length + x.1.length := by rw [size_len, hT']; simp
    exact ⟨[(x.2, A.length)], .step h2 h1 (.done (next_end (by omega))), rfl⟩
  | x :: y :: r, _, h, T, A, hT => by
    have ho := h x (by simp)
    have hT' : T.data.toList = A ++ (x.1 ++ (32 :: joinW ((y :: r).map (·.1)))) := by rw [hT]; rfl
    obtain ⟨h1, h2⟩ := ho.at hT' (.inr ⟨_, rfl⟩)
    have hT2 : T.data.toList = (A ++ (x.1 ++ [32])) ++ joinW ((y :: r).map (·.1)) := by rw [hT']; simp
    obtain ⟨l, hr, hl⟩ := rds_join (y :: r) (by simp) (fun z hz => h z (by simp at hz ⊢; exact .inr hz)) T (A ++ (x.1 ++ [32])) hT2
    have hlen : (A ++ (x.1 ++ [32])).length = A.length + x.1.length + 1 := by simp; omega
    rw [hlen] at hr
    have hsz : T.size = A.length + (x.1.length + (1 + (joinW ((y :: r).map (·.1))).length)) := by rw [size_len, hT']; simp; omega
    have hb : btT T (A.length + x.1.length) = 32 := by
      unfold btT
      rw [show T.data.toList = (A ++ x.1) ++ (32 :: joinW ((y :: r).map (·.1))) by rw [hT']; simp, List.getD, List.getElem?_append_right (by simp)]
      simp
    refine ⟨(x.2, A.length) :: l, .step h2 h1 (Rds.blank (by omega) (by rw [hb]; decide) hr), ?_⟩
    rw [List.map_cons, hl]
    rfl

theorem tok_join {ps : List (List UInt8 × Wd)} (hne : ps ≠ []) (h : ∀ x ∈ ps, OneW x.1 x.2) {T : ByteArray} (hT : T.data.toList = joinW (ps.map (·.1))) (hs : T.size ≤ 65536) :
    ∃ l, tokV T = .ok (l ++ [(⟨8, noB, noB⟩, T.size)]) ∧ l.map (·.1) = ps.map (·.2) := by
  obtain ⟨l, hr, hl⟩ := rds_join ps hne h T [] (by rw [hT]; rfl)
  exact ⟨l, tok_of_reads hs hr, hl⟩

/-- The words of a line, with their texts. -/
def nmP (s : ByteArray) : List (List UInt8 × Wd) := if s.size = 0 then [] else [((writeV s).data.toList, ⟨1, s, noB⟩)]

def nuP (n : Int) : List UInt8 × Wd := ((itB n).data.toList, ⟨3, noB, itB n⟩)

def pcsL (x : LnD) : List (List UInt8 × Wd) :=
  if x.1.1 = 2 then nuP x.1.2 :: nmP x.2
  else if x.1.1 = 3 then nmP x.2
  else if x.1.1 = 4 then ([115, 112, 97, 110], ⟨1, spanB, noB⟩) :: (if x.1.2 = 1 ∧ ¬ x.2.size = 0 then nmP x.2 else nuP x.1.2 :: nmP x.2)
  else [([97, 117, 116, 111], ⟨1, ⟨#[97, 117, 116, 111]⟩, noB⟩)]

theorem good_custom {x : LnD} (hg : goodLn x = true) (h : ¬ x.2.size = 0) : customV x.2 = true := by
  unfold goodLn at hg
  split at hg
  · simp at hg; rw [hg.2] at h; exact absurd rfl h
  · split at hg
    · simp [h] at hg; exact hg.2
    · split at hg
      · simp at hg; exact hg.2
      · split at hg
        · simp [h] at hg; exact hg.2
        · cases hg

theorem nmP_one {x : LnD} (hg : goodLn x = true) : ∀ y ∈ nmP x.2, OneW y.1 y.2 := by
  intro y hy
  unfold nmP at hy
  split at hy
  · cases hy
  · rename_i h
    simp at hy
    subst hy
    exact one_name (cuB_name (r := 7) (good_custom hg h))

theorem pcsL_one {x : LnD} (hg : goodLn x = true) : ∀ y ∈ pcsL x, OneW y.1 y.2 := by
  have hn := goodLn_num hg
  have hnu : OneW (nuP x.1.2).1 (nuP x.1.2).2 := one_num hn.1 hn.2
  have hnm := nmP_one hg
  intro y hy
  unfold pcsL at hy
  split at hy
  · simp at hy
    rcases hy with rfl | hy
    · exact hnu
    · exact hnm y hy
  · split at hy
    · exact hnm y hy
    · split at hy
      · simp at hy
        rcases hy with rfl | hy
        · exact one_span
        · split at hy
          · exact hnm y hy
          · simp at hy
            rcases hy with rfl | hy
            · exact hnu
            · exact hnm y hy
      · simp at hy
        subst hy
        exact one_auto

theorem num_join (n : Int) (s : ByteArray) : joinW ((nuP n :: nmP s).map (·.1)) = (numT ((0, n), s)).data.toList := by
  unfold numT nmP nuP
  simp only
  split
  · rfl
  · rw [app_data', app_data']
    rfl
where app_data' (a b : ByteArray) : (a ++ b).data.toList = a.data.toList ++ b.data.toList := by rw [ByteArray.data_append, Array.toList_append]

theorem pcsL_join {x : LnD} (hg : goodLn x = true) : pcsL x ≠ [] ∧ joinW ((pcsL x).map (·.1)) = (textLn x).data.toList := by
  have hk := goodLn_kinds hg
  have app : ∀ (a b : ByteArray), (a ++ b).data.toList = a.data.toList ++ b.data.toList := fun a b => by rw [ByteArray.data_append, Array.toList_append]
  rw [textLn_dev hg]
  rcases hk with hk | hk | hk | hk
  · have e1 : pcsL x = [([97, 117, 116, 111], ⟨1, ⟨#[97, 117, 116, 111]⟩, noB⟩)] := by unfold pcsL; rw [if_neg (by omega), if_neg (by omega), if_neg (by omega)]
    rw [e1, if_neg (by omega), if_neg (by omega), if_neg (by omega)]
    exact ⟨by simp, rfl⟩
  · have e1 : pcsL x = nuP x.1.2 :: nmP x.2 := by unfold pcsL; rw [if_pos hk]
    rw [e1, if_pos hk]
    refine ⟨by simp, ?_⟩
    rw [num_join]
    rfl
  · have e1 : pcsL x = nmP x.2 := by unfold pcsL; rw [if_neg (by omega), if_pos hk]
    rw [e1, if_neg (by omega), if_pos hk]
    have hc : ¬ x.2.size = 0 := by
      have h3 : goodLn x = (decide (x.1.2 = 0) && customV x.2) := by unfold goodLn; rw [if_neg (by omega), if_neg (by omega), if_pos hk]
      rw [h3, Bool.and_eq_true] at hg
      have := custom_size hg.2
      omega
    unfold nmP
    rw [if_neg hc]
    exact ⟨by simp, rfl⟩
  · have e1 : pcsL x = ([115, 112, 97, 110], ⟨1, spanB, noB⟩) :: (if x.1.2 = 1 ∧ ¬ x.2.size = 0 then nmP x.2 else nuP x.1.2 :: nmP x.2) := by unfold pcsL; rw [if_neg (by omega), if_neg (by omega), if_pos hk]
    rw [e1, if_neg (show ¬ x.1.1 = 2 by omega), if_neg (show ¬ x.1.1 = 3 by omega), if_pos hk]
    refine ⟨by simp, ?_⟩
    unfold spT
    by_cases h1 : x.1.2 = 1 ∧ ¬ x.2.size = 0
    · rw [if_pos h1, if_pos h1, app]
      unfold nmP
      rw [if_neg h1.2]
      rfl
    · rw [if_neg h1, if_neg h1, app]
      have := num_join x.1.2 x.2
      rw [show numT ((0, x.1.2), x.2) = numT x from rfl] at this
      rw [← this]
      rfl

end Go.Proofs.YtbnfggnklhfimaaGreatDoor

/- Several lines, read by the document's own way. -/
namespace Go.Proofs.YtbnfggnklhfimaaGreatDoor
open Go.RowKit

set_option maxRecDepth 100000 in
set_option maxHeartbeats 2000000 in
theorem rother_any (x : LnD) (w : World) : Calls Tryz.prog 26 #[lnA x] w fun e w' => e = .returned (lnA (otherL x)) ∧ Below w.heap.size w w' := by
  obtain ⟨⟨k, n⟩, s⟩ := x
  have h1 := LnAt.new w k n s
  have hb := (Below.refl _ w).alloc (Nat.le_refl _) (.cells #[.int .i64 k, .int .i64 n, .string s] 23)
  have hb2 := (Below.refl _ (w.alloc (.cells #[.int .i64 k, .int .i64 n, .string s] 23))).alloc (Nat.le_refl _) (.cells #[.int .i64 0, .int .i64 0, .string ⟨#[]⟩] 23)
  have h2 := LnAt.new (w.alloc (.cells #[.int .i64 k, .int .i64 n, .string s] 23)) 0 0 ⟨#[]⟩
  have h3 := h1.below hb2 h1.lt
  have hB := hide (hb.trans (hb2.mono hb.size))
  rw [World.size_alloc] at h2
  have x0 := h3.c0
  have x1 := h3.c1
  have x2 := h3.c2
  have z0 := h2.c0
  have z1 := h2.c1
  have z2 := h2.c2
  have zz := h2.z
  simp only at x0 x1 x2 z0 z1 z2
  have hn1 : ¬ w.heap.size = w.heap.size + 1 := by omega
  have hn2 : ¬ w.heap.size + 1 = w.heap.size := by omega
  clear h1 h2 h3 hb hb2
  unfold otherL lnA
  rcases eqk k 3 with ⟨hk, hkb⟩ | ⟨hk, hkb⟩
  · subst hk
    rw [if_pos rfl]
    go_enter Tryz.func26, Tryz.ntmps26
    go_upto_region 1 with fail
    generalize ((w.alloc (.cells #[.int .i64 3, .int .i64 n, .string s] 23)).alloc (.cells #[.int .i64 0, .int .i64 0, .string ⟨#[]⟩] 23)) = w1 at *
    go_wp2_with fail
    refine bodyPost_ret (v := .agg #[.int .i64 3, .int .i64 n, .string s]) (by simp [results, Tryz.results26, go_sem, z0, z1, z2]) rfl ⟨rfl, below_three hB.out (Nat.le_succ _) _ _ _⟩
  · rw [if_neg hk]
    go_enter Tryz.func26, Tryz.ntmps26
    go_upto_region 1 with fail
    generalize ((w.alloc (.cells #[.int .i64 k, .int .i64 n, .string s] 23)).alloc (.cells #[.int .i64 0, .int .i64 0, .string ⟨#[]⟩] 23)) = w1 at *
    go_wp2_with fail
    refine bodyPost_ret (v := .agg #[.int .i64 1, .int .i64 0, .string ⟨#[]⟩]) (by simp [results, Tryz.results26, go_sem, z0, z1, z2]) rfl ⟨rfl, below_three hB.out (Nat.le_succ _) _ _ _⟩

def lnCells (xs : List LnD) : List Value := xs.flatMap fun x => [.int .i64 x.1.1, .int .i64 x.1.2, .string x.2]

theorem lnCells_snoc (xs : List LnD) (x : LnD) : lnCells (xs ++ [x]) = lnCells xs ++ [.int .i64 x.1.1, .int .i64 x.1.2, .string x.2] := by simp [lnCells]

theorem lnLen (xs : List LnD) : (lnCells xs).length = xs.length * 3 := by
  induction xs with
  | nil => rfl
  | cons x xs ih => simp [lnCells] at ih ⊢; omega

theorem ln_info : (Tryz.prog.info? 23).map (fun i => (i.zero, i.size, i.bytes)) = some (some (.agg #[.int .i64 0, .int .i64 0, .string ⟨#[]⟩]), 3, 32) := by kernel_rfl

theorem cell_three_new (w : World) (T b : Nat) (hb : b = w.heap.size) (c0 c1 c2 : Value) : ∀ j u, [c0, c1, c2][j]? = some u → (w.alloc (.cells #[c0, c1, c2] T)).cell? ((⟨b, 0, none⟩ : Addr).add j) = some u := by
  subst hb
  intro j u h
  have hn := heap_alloc_new w (.cells #[c0, c1, c2] T)
  have e : (⟨w.heap.size, 0, none⟩ : Addr).add j = ⟨w.heap.size, j, none⟩ := by simp [Addr.add]; exact fun h => h.symm
  rw [e, Lib.cell_of_heap hn]
  simpa using h

/-- What follows some lines: others, where a / stands, and some may be. -/
def restR (l : List Tk) (f : Nat) (k : Int) : Except (Int × Int) (List LnD × Int) := if f = 0 ∨ signV l k ⟨#[47]⟩ = false then .ok ([], k) else linesR l f (k + 1)

def addL (acc : List LnD) : Except (Int × Int) (List LnD × Int) → Except (Int × Int) (List LnD × Int)
  | .error e => .error e
  | .ok (xs, j) => .ok (acc ++ xs, j)

theorem lines_err {l : List Tk} {f : Nat} {i : Int} (h : ¬ (lineR l i).2.2 = 0) : linesR l (f + 1) i = .error ((lineR l i).2.1, (lineR l i).2.2) := by rw [linesR, if_neg h]

theorem lines_cons {l : List Tk} {f : Nat} {i : Int} (h : (lineR l i).2.2 = 0) : linesR l (f + 1) i = addL [(lineR l i).1] (restR l f (lineR l i).2.1) := by
  rw [linesR, if_pos h]
  unfold restR
  by_cases hc : f = 0 ∨ signV l (lineR l i).2.1 ⟨#[47]⟩ = false
  · rw [if_pos hc, if_pos hc]; rfl
  · rw [if_neg hc, if_neg hc]
    cases linesR l f ((lineR l i).2.1 + 1) with
    | error e => rfl
    | ok p => rfl

theorem addL_addL (a b : List LnD) (r : Except (Int × Int) (List LnD × Int)) : addL a (addL b r) = addL (a ++ b) r := by
  cases r with
  | error e => rfl
  | ok p => simp [addL]

/-- How Lines ends. -/
def LinesE (w : World) : Except (Int × Int) (List LnD × Int) → Ending → World → Prop
  | .error (a, er), e, _ => e = .returned (.tuple #[.slice none 0 0, .int .i64 a, .int .i64 er])
  | .ok (xs, j), e, w' => ∃ u, e = .returned (.tuple #[u, .int .i64 j, .int .i64 0]) ∧ w'.ownsRow w.heap.size 23 3 u xs.length (lnCells xs)

/-- What the loop over lines keeps. -/
structure LsSt (w wr : World) (v : Value) (l : List Tk) (V : Nat) (x : LnD) (u : Value) (acc : List LnD) : Prop where
  tks : Tks wr v l
  box : LnAt wr V x
  own : wr.ownsRow w.heap.size 23 3 u acc.length (lnCells acc)
  ne : u.ownBlock ≠ some V
  bel : Below w.heap.size w wr
  hv : w.heap.size ≤ V
  tv : Tks w v l

theorem LsSt.next {w w1 w2 : World} {v : Value} {l : List Tk} {V : Nat} {x : LnD} {u : Value} {acc : List LnD} (h : LsSt w w1 v l V x u acc) (hb : Below w1.heap.size w1 w2) : LsSt w w2 v l V x u acc :=
  ⟨h.tks.below hb, h.box.below hb h.box.lt, own_below h.own hb, h.ne, h.bel.trans (hb.mono h.bel.size), h.hv, h.tv⟩

theorem own_slice {w : World} {base e size n : Nat} {v : Value} {xs : List Value} (h : w.ownsRow base e size v n xs) : ∃ ao cap, v = .slice ao n cap := by
  rcases h.2 with ⟨hv, hn⟩ | ⟨g, cap, cur, hv, _⟩
  · exact ⟨none, 0, by rw [hv, hn]⟩
  · exact ⟨_, _, hv⟩

end Go.Proofs.YtbnfggnklhfimaaGreatDoor

/- Lines come back from their words. -/
namespace Go.Proofs.YtbnfggnklhfimaaGreatDoor
open Go.RowKit

/-- From a place on these words stand. -/
def Std (l : List Tk) (p : Int) (ws : List Wd) : Prop := ∀ (j : Nat) (t : Wd), ws[j]? = some t → (tkV l (p + j)).1.1 = t.kind ∧ (tkV l (p + j)).2.1 = t.text ∧ (tkV l (p + j)).2.2 = t.num

theorem Std.head {l : List Tk} {p : Int} {t : Wd} {ws : List Wd} (h : Std l p (t :: ws)) : (tkV l p).1.1 = t.kind ∧ (tkV l p).2.1 = t.text ∧ (tkV l p).2.2 = t.num := by
  have := h 0 t rfl
  rw [show p + ((0 : Nat) : Int) = p by omega] at this
  exact this

theorem Std.tail {l : List Tk} {p : Int} {t : Wd} {ws : List Wd} (h : Std l p (t :: ws)) : Std l (p + 1) ws := fun j u hu => by
  have := h (j + 1) u (by simpa using hu)
  rw [show p + ((j + 1 : Nat) : Int) = p + 1 + (j : Int) by omega] at this
  exact this

theorem Std.app {l : List Tk} {p : Int} {a b : List Wd} (h : Std l p (a ++ b)) : Std l p a ∧ Std l (p + a.length) b := by
  refine ⟨fun j t ht => h j t ?_, fun j t ht => ?_⟩
  · rw [List.getElem?_append_left]
    · exact ht
    · rcases Nat.lt_or_ge j a.length with h | h
      · exact h
      · rw [List.getElem?_eq_none h] at ht; cases ht
  · have := h (a.length + j) t (by rw [List.getElem?_append_right (by omega)]; rw [show a.length + j - a.length = j by omega]; exact ht)
    rw [show p + ((a.length + j : Nat) : Int) = p + (a.length : Int) + (j : Int) by omega] at this
    exact this

theorem std_tok {l0 : List (Wd × Nat)} {e : Nat} {ws : List Wd} (h : l0.map (·.1) = ws) : Std (tkl (l0 ++ [(⟨8, noB, noB⟩, e)])) 0 (ws ++ [⟨8, noB, noB⟩]) := fun j t ht => by
  have hm : (l0 ++ [((⟨8, noB, noB⟩ : Wd), e)]).map (·.1) = ws ++ [⟨8, noB, noB⟩] := by rw [List.map_append, h]; rfl
  rw [← hm, List.getElem?_map] at ht
  cases hx : (l0 ++ [((⟨8, noB, noB⟩ : Wd), e)])[j]? with
  | none => rw [hx] at ht; cases ht
  | some x =>
    rw [hx] at ht
    simp at ht
    have hk : (tkl (l0 ++ [((⟨8, noB, noB⟩ : Wd), e)]))[j]? = some ((x.1.kind, (x.2 : Int)), x.1.text, x.1.num) := by unfold tkl; rw [List.getElem?_map, hx]; rfl
    have hv : tkV (tkl (l0 ++ [((⟨8, noB, noB⟩ : Wd), e)])) (0 + (j : Int)) = ((x.1.kind, (x.2 : Int)), x.1.text, x.1.num) := by
      unfold tkV
      rw [if_neg (by omega), show (0 + (j : Int)).toNat = j by omega, List.getD, hk]
      rfl
    rw [hv, ← ht]
    exact ⟨rfl, rfl, rfl⟩

theorem cu_kw {s : ByteArray} : ∀ (r : Nat), r ≤ 7 → cuB s r = true → ∀ i, 7 - r ≤ i → i < 7 → kwB s i = false
  | 0, _, _, i, h1, h2 => by omega
  | r + 1, hr, h, i, h1, h2 => by
    unfold cuB at h
    split at h
    · cases h
    · rename_i hk
      by_cases he : i = 6 - r
      · rw [he]; cases hb : kwB s (6 - r)
        · rfl
        · exact absurd hb hk
      · exact cu_kw r (by omega) h i (by omega) h2

theorem custom_kw {s : ByteArray} (h : customV s = true) (i : Nat) (hi : i < 7) : kwB s i = false := cu_kw 7 (Nat.le_refl _) h i (by omega) hi

theorem kw_off {l : List Tk} {p : Int} (h : ∀ z ∈ autoK ++ wideK, kwP l p z = false) : ¬ 0 ≤ (keywV l p autoK).1 ∧ ¬ 0 ≤ (keywV l p wideK).1 := by
  have h1 : idxP (kwP l p) autoK = -1 := idxP_none fun i hi => by
    refine h _ (List.mem_append_left _ ?_)
    rw [List.getD, List.getElem?_eq_getElem hi]; exact List.getElem_mem hi
  have h2 : idxP (kwP l p) wideK = -1 := idxP_none fun i hi => by
    refine h _ (List.mem_append_right _ ?_)
    rw [List.getD, List.getElem?_eq_getElem hi]; exact List.getElem_mem hi
  unfold keywV
  rw [h1, h2]
  exact ⟨by simp, by simp⟩

/-- A number. -/
theorem wd_num {l : List Tk} {p n : Int} (h0 : -10000 ≤ n) (h1 : n ≤ 10000) (hk : (tkV l p).1.1 = 3) (ht : (tkV l p).2.2 = itB n) : kindL l p = 1 ∧ intV l p = (n, p + 1, 0) ∧ (∀ z, kwP l p z = false) := by
  have hl : isLen n = true := by simp [isLen]; omega
  have hv := (text_back (sc := 1) (by decide) hl).1
  rw [textOne7 h0 h1] at hv
  have hs : scalV (itB n) 1 = (n, 0) := by unfold scalV; rw [hv, if_pos (.inl rfl)]
  have hd : deeB (itB n) = false := by
    unfold deeB
    have hno : Lib.indexAny (itB n).data.toList [46, 101, 69] = -1 := by
      have key : ∀ L : List UInt8, (∀ c ∈ L, c = 45 ∨ dg c = true) → Lib.indexAny L [46, 101, 69] = -1 := by
        intro L
        induction L with
        | nil => intro _; rfl
        | cons c L ih =>
          intro hc
          have i1 := ih (fun c hc' => hc c (by simp [hc']))
          have i2 : ([46, 101, 69] : List UInt8).contains c = false := by
            rcases hc c (by simp) with rfl | hg
            · decide
            · have hg2 := dg_true hg
              simp
              refine ⟨?_, ?_, ?_⟩ <;> (intro e; rw [e] at hg2; revert hg2; decide)
          unfold Lib.indexAny
          rw [if_neg (by rw [i2]; simp), i1]
          rfl
      refine key _ ?_
      show ∀ c ∈ (Lib.itoa n), c = 45 ∨ dg c = true
      unfold Lib.itoa
      intro c hc
      split at hc
      · simp at hc
        rcases hc with h | h
        · exact .inl h
        · exact .inr ((dec_all _).1 c h)
      · exact .inr ((dec_all _).1 c hc)
    rw [hno]; decide
  have hi : intV l p = (n, p + 1, 0) := by
    unfold intV
    rw [if_neg (by rw [hk]; simp), ht, hd, if_neg (by simp), hs, if_pos rfl]
  refine ⟨?_, hi, fun z => by unfold kwP; rw [hk]; rfl⟩
  unfold kindL
  rw [if_neg (by rw [hk]; decide), hi, if_pos (.inl rfl)]

/-- A name. -/
theorem wd_name {l : List Tk} {p : Int} (hk : (tkV l p).1.1 = 1) (hc : customV (tkV l p).2.1 = true) : kindL l p = 2 ∧ (∀ z ∈ autoK ++ wideK, kwP l p z = false) := by
  constructor
  · unfold kindL
    rw [if_pos hk, if_neg (by rw [custom_span hc]; simp), if_pos hc]
  · intro z hz
    unfold kwP
    rw [hk]
    have h1 := custom_kw hc 1 (by decide)
    have h2 := custom_kw hc 2 (by decide)
    have h3 := custom_kw hc 3 (by decide)
    have h4 := custom_kw hc 4 (by decide)
    have h6 := custom_kw hc 6 (by decide)
    have : z = KWc 1 ∨ z = KWc 3 ∨ z = KWc 2 ∨ z = KWc 4 ∨ z = KWc 6 := by simpa [autoK, wideK, KWc] using hz
    have e : ∀ i, z = KWc i → isB (tkV l p).2.1 z = kwB (tkV l p).2.1 i := fun i h => by rw [h]; rfl
    rcases this with h | h | h | h | h
    · rw [e 1 h, h1]; rfl
    · rw [e 3 h, h3]; rfl
    · rw [e 2 h, h2]; rfl
    · rw [e 4 h, h4]; rfl
    · rw [e 6 h, h6]; rfl

theorem wd_span {l : List Tk} {p : Int} (hk : (tkV l p).1.1 = 1) (ht : (tkV l p).2.1 = spanB) : kindL l p = 3 ∧ (∀ z ∈ autoK ++ wideK, kwP l p z = false) := by
  constructor
  · unfold kindL
    rw [if_pos hk, ht, if_pos (by decide +kernel)]
  · intro z hz
    unfold kwP
    rw [hk, ht]
    have : ∀ z ∈ autoK ++ wideK, isB spanB z = false := by decide +kernel
    rw [this z hz]
    rfl

theorem wd_auto {l : List Tk} {p : Int} (hk : (tkV l p).1.1 = 1) (ht : (tkV l p).2.1 = ⟨#[97, 117, 116, 111]⟩) : 0 ≤ (keywV l p autoK).1 := by
  unfold keywV
  have : idxP (kwP l p) autoK = 0 := by
    show idxP (kwP l p) [(⟨#[97, 117, 116, 111]⟩ : ByteArray)] = 0
    unfold idxP
    rw [if_pos]
    unfold kwP
    rw [hk, ht]
    decide +kernel
  rw [this]
  simp

theorem wd_off {l : List Tk} {p : Int} (hk : (tkV l p).1.1 = 7 ∨ (tkV l p).1.1 = 8) : kindL l p = 0 := by
  unfold kindL
  rw [if_neg (by omega), if_neg]
  intro h
  have := int_err l p h
  omega

theorem scan_n {l : List Tk} {p : Int} (h0 : kindL l p = 1) (h1 : kindL l (p + 1) = 0) : scanL l p 4 (-1) (-1) (-1) p = (p, -1, -1, p + 1) := by
  simp [scanL, h0, h1]

theorem scan_nn {l : List Tk} {p : Int} (h0 : kindL l p = 1) (h1 : kindL l (p + 1) = 2) (h2 : kindL l (p + 1 + 1) = 0) : scanL l p 4 (-1) (-1) (-1) p = (p, p + 1, -1, p + 1 + 1) := by
  simp [scanL, h0, h1, h2]

theorem scan_m {l : List Tk} {p : Int} (h0 : kindL l p = 2) (h1 : kindL l (p + 1) = 0) : scanL l p 4 (-1) (-1) (-1) p = (-1, p, -1, p + 1) := by
  simp [scanL, h0, h1]

theorem scan_sm {l : List Tk} {p : Int} (h0 : kindL l p = 3) (h1 : kindL l (p + 1) = 2) (h2 : kindL l (p + 1 + 1) = 0) : scanL l p 4 (-1) (-1) (-1) p = (-1, p + 1, p, p + 1 + 1) := by
  simp [scanL, h0, h1, h2]

theorem scan_sn {l : List Tk} {p : Int} (h0 : kindL l p = 3) (h1 : kindL l (p + 1) = 1) (h2 : kindL l (p + 1 + 1) = 0) : scanL l p 4 (-1) (-1) (-1) p = (p + 1, -1, p, p + 1 + 1) := by
  simp [scanL, h0, h1, h2]

theorem scan_snm {l : List Tk} {p : Int} (h0 : kindL l p = 3) (h1 : kindL l (p + 1) = 1) (h2 : kindL l (p + 1 + 1) = 2) (h3 : kindL l (p + 1 + 1 + 1) = 0) : scanL l p 4 (-1) (-1) (-1) p = (p + 1, p + 1 + 1, p, p + 1 + 1 + 1) := by
  simp [scanL, h0, h1, h2, h3]

theorem line_off {l : List Tk} {p : Int} (h : ∀ z ∈ autoK ++ wideK, kwP l p z = false) : lineR l p = lineOf l p (scanL l p 4 (-1) (-1) (-1) p) := by
  have := kw_off h
  unfold lineR
  rw [if_neg this.1, if_neg this.2]

/-- A line is read of its words as it is. -/
theorem line_back {x : LnD} (hg : goodLn x = true) {l : List Tk} {p : Int} (hp : 0 ≤ p) (hs : Std l p ((pcsL x).map (·.2))) (he : kindL l (p + (pcsL x).length) = 0) : lineR l p = (x, p + (pcsL x).length, 0) := by
  have hn := goodLn_num hg
  have hk := goodLn_kinds hg
  obtain ⟨⟨k, n⟩, s⟩ := x
  simp only at hn hk
  rcases hk with hk | hk | hk | hk
  · subst hk
    have e1 : pcsL ((1, n), s) = [([97, 117, 116, 111], ⟨1, ⟨#[97, 117, 116, 111]⟩, noB⟩)] := rfl
    rw [e1] at hs he ⊢
    have h1 := hs.head
    have ha := wd_auto h1.1 h1.2.1
    have hg2 : n = 0 ∧ s.size = 0 := by unfold goodLn at hg; simp at hg; exact ⟨hg.1, by rw [hg.2]; rfl⟩
    have hs0 : s = ⟨#[]⟩ := by
      rcases empty_or7 s with h | h
      · exact h
      · exact absurd hg2.2 h.2.1
    unfold lineR
    rw [if_pos ha, hg2.1, hs0]
    rfl
  · subst hk
    have hg2 : ¬ n = 0 := by unfold goodLn at hg; simp at hg; exact hg.1.1.1
    have e1 : pcsL ((2, n), s) = nuP n :: nmP s := rfl
    rw [e1] at hs he ⊢
    have hw := wd_num hn.1 hn.2 hs.head.1 hs.head.2.2
    rw [line_off fun z _ => hw.2.2 z]
    by_cases hz : s.size = 0
    · have e2 : nmP s = [] := by unfold nmP; rw [if_pos hz]
      have hs0 : s = ⟨#[]⟩ := by
        rcases empty_or7 s with h | h
        · exact h
        · exact absurd hz h.2.1
      rw [e2] at he ⊢
      have he' : kindL l (p + 1) = 0 := he
      rw [scan_n hw.1 he']
      unfold lineOf nameOf
      simp only [hw.2.1]
      rw [if_neg (by omega), if_pos hp, if_neg (by simp; omega), if_neg (by omega), if_neg (by decide), if_neg (by decide), hs0]
      rfl
    · have e2 : nmP s = [((writeV s).data.toList, ⟨1, s, noB⟩)] := by unfold nmP; rw [if_neg hz]
      have hc := good_custom hg hz
      rw [e2] at hs he ⊢
      have ht := hs.tail.head
      have hm := wd_name ht.1 (by rw [ht.2.1]; exact hc)
      have he' : kindL l (p + 1 + 1) = 0 := by rw [show p + 1 + 1 = p + ((([nuP n, ((writeV s).data.toList, (⟨1, s, noB⟩ : Wd))].length : Nat)) : Int) by simp; omega]; exact he
      rw [scan_nn hw.1 hm.1 he']
      unfold lineOf nameOf
      simp only [hw.2.1]
      rw [if_neg (by omega), if_pos hp, if_neg (by simp; omega), if_neg (by omega), if_neg (by decide), if_pos (by omega), ht.2.1]
      simp
      omega
  · subst hk
    have hg2 : n = 0 ∧ customV s = true := by unfold goodLn at hg; simp at hg; exact hg
    have hz : ¬ s.size = 0 := by have := custom_size hg2.2; omega
    have e1 : pcsL ((3, n), s) = [((writeV s).data.toList, ⟨1, s, noB⟩)] := by
      show nmP s = _
      unfold nmP; rw [if_neg hz]
    rw [e1] at hs he ⊢
    have ht := hs.head
    have hm := wd_name ht.1 (by rw [ht.2.1]; exact hg2.2)
    have he' : kindL l (p + 1) = 0 := he
    rw [line_off hm.2, scan_m hm.1 he']
    unfold lineOf nameOf
    simp only
    rw [if_neg (by omega), if_neg (by decide), if_neg (by decide), if_pos hp, ht.2.1, hg2.1]
    rfl
  · subst hk
    have hg2 : 1 ≤ n := by unfold goodLn at hg; simp at hg; exact hg.1.1
    have e1 : pcsL ((4, n), s) = ([115, 112, 97, 110], ⟨1, spanB, noB⟩) :: (if n = 1 ∧ ¬ s.size = 0 then nmP s else nuP n :: nmP s) := rfl
    rw [e1] at hs he ⊢
    have hw := wd_span hs.head.1 hs.head.2.1
    rw [line_off hw.2]
    by_cases hz : s.size = 0
    · have e2 : nmP s = [] := by unfold nmP; rw [if_pos hz]
      have hs0 : s = ⟨#[]⟩ := by
        rcases empty_or7 s with h | h
        · exact h
        · exact absurd hz h.2.1
      rw [if_neg (fun h => h.2 hz), e2] at hs he ⊢
      have hu := wd_num hn.1 hn.2 hs.tail.head.1 hs.tail.head.2.2
      have he' : kindL l (p + 1 + 1) = 0 := by rw [show p + 1 + 1 = p + ((2 : Nat) : Int) by omega]; exact he
      rw [scan_sn hw.1 hu.1 he']
      unfold lineOf nameOf
      simp only [hu.2.1]
      rw [if_neg (by omega), if_pos (by omega), if_neg (by simp; omega), if_neg (by omega), if_pos hp, if_neg (by decide), hs0]
      simp
      omega
    · have e2 : nmP s = [((writeV s).data.toList, ⟨1, s, noB⟩)] := by unfold nmP; rw [if_neg hz]
      have hc := good_custom hg hz
      by_cases h1 : n = 1
      · rw [if_pos ⟨h1, hz⟩, e2] at hs he ⊢
        have ht := hs.tail.head
        have hm := wd_name ht.1 (by rw [ht.2.1]; exact hc)
        have he' : kindL l (p + 1 + 1) = 0 := by rw [show p + 1 + 1 = p + ((2 : Nat) : Int) by omega]; exact he
        rw [scan_sm hw.1 hm.1 he']
        unfold lineOf nameOf
        simp only
        rw [if_neg (by omega), if_neg (by decide), if_pos hp, if_neg (by omega), if_pos (by omega), ht.2.1, h1]
        simp
        omega
      · rw [if_neg (fun h => h1 h.1), e2] at hs he ⊢
        have hu := wd_num hn.1 hn.2 hs.tail.head.1 hs.tail.head.2.2
        have ht := hs.tail.tail.head
        have hm := wd_name ht.1 (by rw [ht.2.1]; exact hc)
        have he' : kindL l (p + 1 + 1 + 1) = 0 := by rw [show p + 1 + 1 + 1 = p + ((3 : Nat) : Int) by omega]; exact he
        rw [scan_snm hw.1 hu.1 hm.1 he']
        unfold lineOf nameOf
        simp only [hu.2.1]
        rw [if_neg (by omega), if_pos (by omega), if_neg (by simp; omega), if_neg (by omega), if_pos hp, if_pos (by omega), ht.2.1]
        simp
        omega

end Go.Proofs.YtbnfggnklhfimaaGreatDoor

/- The text of two lines, by the document's own way. -/
namespace Go.Proofs.YtbnfggnklhfimaaGreatDoor
open Go.RowKit

/-- The text of two lines. -/
def pairTextLn (a b : LnD) : ByteArray :=
  if goodLn a = false then ⟨#[]⟩ else if goodLn b = false then ⟨#[]⟩
  else if b = otherL a then textLn a else textLn a ++ ⟨#[32, 47, 32]⟩ ++ textLn b

/-- Two lines lie in their boxes. -/
structure PtSt (w wr : World) (a b : LnD) : Prop where
  la : LnAt wr w.heap.size a
  lb : LnAt wr (w.heap.size + 1) b
  bel : Below w.heap.size w wr

theorem PtSt.next {w w1 w2 : World} {a b : LnD} (h : PtSt w w1 a b) (hb : Below w1.heap.size w1 w2) : PtSt w w2 a b := ⟨h.la.below hb h.la.lt, h.lb.below hb h.lb.lt, h.bel.trans (hb.mono h.bel.size)⟩

theorem textLn_size {x : LnD} (hs : x.2.size ≤ 2000000) : (textLn x).size ≤ 20000000 := by
  have h1 := write_size hs
  unfold textLn
  cases hg : goodLn x
  · rw [if_pos rfl]; exact Nat.le_of_ble_eq_true rfl
  · have h2 := txt_small (goodLn_num hg).1 (goodLn_num hg).2
    rw [if_neg (by simp)]
    have e1 : (⟨#[32]⟩ : ByteArray).size = 1 := rfl
    have e4 : (⟨#[97, 117, 116, 111]⟩ : ByteArray).size = 4 := rfl
    have e5 : (⟨#[115, 112, 97, 110, 32]⟩ : ByteArray).size = 5 := rfl
    repeat' split
    all_goals first | omega | (simp only [ByteArray.size_append, e1, e5]; omega) | (rw [e4]; omega)

set_option maxRecDepth 100000 in
set_option maxHeartbeats 16000000 in
theorem rpairText7_any (a b : LnD) (w : World) (ha : a.2.size ≤ 2000000) (hb : b.2.size ≤ 2000000) : Calls Tryz.prog 12 #[lnA a, lnA b] w fun e w' => e = .returned (.string (pairTextLn a b)) ∧ Below w.heap.size w w' := by
  have hpt : pairTextLn a b = if goodLn a = false then ⟨#[]⟩ else if goodLn b = false then ⟨#[]⟩ else if b = otherL a then textLn a else textLn a ++ ⟨#[32, 47, 32]⟩ ++ textLn b := rfl
  have cga := fun w => rgood7_any a w ha
  have cgb := fun w => rgood7_any b w hb
  have cta := fun w => rtext7_any a w ha
  have ctb := fun w => rtext7_any b w hb
  have co := fun w => rother_any a w
  have hsa := textLn_size ha
  have hsb := textLn_size hb
  obtain ⟨⟨k, n⟩, s⟩ := a
  obtain ⟨⟨k2, n2⟩, s2⟩ := b
  have h1 := LnAt.new w k n s
  have b1 := (Below.refl _ w).alloc (Nat.le_refl _) (.cells #[.int .i64 k, .int .i64 n, .string s] 23)
  have b2 := (Below.refl _ (w.alloc (.cells #[.int .i64 k, .int .i64 n, .string s] 23))).alloc (Nat.le_refl _) (.cells #[.int .i64 k2, .int .i64 n2, .string s2] 23)
  have h2 := LnAt.new (w.alloc (.cells #[.int .i64 k, .int .i64 n, .string s] 23)) k2 n2 s2
  rw [World.size_alloc] at h2
  have ST0 : Hid (PtSt w ((w.alloc (.cells #[.int .i64 k, .int .i64 n, .string s] 23)).alloc (.cells #[.int .i64 k2, .int .i64 n2, .string s2] 23)) ((k, n), s) ((k2, n2), s2)) := hide ⟨h1.below b2 h1.lt, h2, b1.trans (b2.mono b1.size)⟩
  generalize pairTextLn ((k, n), s) ((k2, n2), s2) = PT at *
  generalize goodLn ((k, n), s) = GA at *
  generalize goodLn ((k2, n2), s2) = GB at *
  generalize textLn ((k, n), s) = TA at *
  generalize textLn ((k2, n2), s2) = TB at *
  generalize otherL ((k, n), s) = OX at *
  obtain ⟨⟨ok, on⟩, os⟩ := OX
  unfold lnA at cga cgb cta ctb co ⊢
  simp only at cga cgb cta ctb co ⊢
  have hl1 : ¬ 9223372036854775807 < TA.size + 3 := by omega
  have hl2 : ¬ 9223372036854775807 < TA.size + 3 + TB.size := by omega
  have HPT := hide hpt
  have CGA := hide cga
  have CGB := hide cgb
  have CTA := hide cta
  have CTB := hide ctb
  have CO := hide co
  clear hpt cga cgb cta ctb co h1 h2 b1 b2 ha hb
  go_enter Tryz.func12, Tryz.ntmps12
  go_upto_region 1 with fail
  generalize ((w.alloc (.cells #[.int .i64 k, .int .i64 n, .string s] 23)).alloc (.cells #[.int .i64 k2, .int .i64 n2, .string s2] 23)) = w0 at *
  have a0 := (ST0.out).la.c0
  have a1 := (ST0.out).la.c1
  have a2 := (ST0.out).la.c2
  have c0 := (ST0.out).lb.c0
  have c1 := (ST0.out).lb.c1
  have c2 := (ST0.out).lb.c2
  simp only at a0 a1 a2 c0 c1 c2
  go_wp2_with fail
  refine Calls.mono (unhide CGA _) ?_
  rintro e w1 ⟨rfl, hb⟩
  have ST1 := hide ((ST0.out).next hb)
  clear hb ST0 CGA a0 a1 a2 c0 c1 c2
  have a0 := (ST1.out).la.c0
  have a1 := (ST1.out).la.c1
  have a2 := (ST1.out).la.c2
  have c0 := (ST1.out).lb.c0
  have c1 := (ST1.out).lb.c1
  have c2 := (ST1.out).lb.c2
  simp only at a0 a1 a2 c0 c1 c2
  cases GA
  · have hv := HPT.out
    rw [if_pos rfl] at hv
    have HV := hide hv
    clear hv HPT
    go_wp2_with fail
    go_ret
    exact ⟨by rw [HV.out] <;> rfl, (ST1.out).bel⟩
  · have hpt := HPT.out
    rw [if_neg (by simp)] at hpt
    have HPT2 := hide hpt
    clear hpt HPT
    go_wp2_with fail
    refine Calls.mono (unhide CGB _) ?_
    rintro e w2 ⟨rfl, hb⟩
    have ST2 := hide ((ST1.out).next hb)
    clear hb ST1 CGB a0 a1 a2 c0 c1 c2
    cases GB
    · have hv := HPT2.out
      rw [if_pos rfl] at hv
      have HV := hide hv
      clear hv HPT2
      go_wp2_with fail
      go_ret
      exact ⟨by rw [HV.out] <;> rfl, (ST2.out).bel⟩
    · have hpt := HPT2.out
      rw [if_neg (by simp)] at hpt
      have HPT3 := hide hpt
      clear hpt HPT2
      have cox : ∀ w', PtSt w w' ((k, n), s) ((k2, n2), s2) → Calls Tryz.prog 26 #[.agg #[.int .i64 k, .int .i64 n, .string s]] w' fun e w'' => e = .returned (.agg #[.int .i64 ok, .int .i64 on, .string os]) ∧ PtSt w w'' ((k, n), s) ((k2, n2), s2) := fun w' h => (unhide CO w').mono fun _ _ hh => ⟨hh.1, h.next hh.2⟩
      have ctx : ∀ w', PtSt w w' ((k, n), s) ((k2, n2), s2) → Calls Tryz.prog 10 #[.agg #[.int .i64 k, .int .i64 n, .string s]] w' fun e w'' => e = .returned (.string TA) ∧ PtSt w w'' ((k, n), s) ((k2, n2), s2) := fun w' h => (unhide CTA w').mono fun _ _ hh => ⟨hh.1, h.next hh.2⟩
      have cty : ∀ w', PtSt w w' ((k, n), s) ((k2, n2), s2) → Calls Tryz.prog 10 #[.agg #[.int .i64 k2, .int .i64 n2, .string s2]] w' fun e w'' => e = .returned (.string TB) ∧ PtSt w w'' ((k, n), s) ((k2, n2), s2) := fun w' h => (unhide CTB w').mono fun _ _ hh => ⟨hh.1, h.next hh.2⟩
      have COX := hide cox
      have CTX := hide ctx
      have CTY := hide cty
      clear cox ctx cty CO CTB
      rcases eqk k2 ok with ⟨hk, hkb⟩ | ⟨hk, hkb⟩
      · subst hk
        rcases eqk n2 on with ⟨hn, hnb⟩ | ⟨hn, hnb⟩
        · subst hn
          by_cases hs : s2 = os
          · subst hs
            have hv := HPT3.out
            rw [if_pos rfl] at hv
            have HV := hide hv
            clear hv HPT3
            go_upto_region 3 with fail
            have STd : Hid (PtSt w w2.drew ((k, n), s) ((k2, n2), s2)) := hide ((ST2.out).next (Below.refl _ w2).drew)
            have a0 := (STd.out).la.c0
            have a1 := (STd.out).la.c1
            have a2 := (STd.out).la.c2
            have c0 := (STd.out).lb.c0
            have c1 := (STd.out).lb.c1
            have c2 := (STd.out).lb.c2
            simp only at a0 a1 a2 c0 c1 c2
            clear ST2
            go_region_held3 (fun w' => w'.cell? ⟨w.heap.size, 0, none⟩ = some (.int .i64 k) ∧ w'.cell? ⟨w.heap.size, 1, none⟩ = some (.int .i64 n) ∧ w'.cell? ⟨w.heap.size, 2, none⟩ = some (.string s) ∧ w'.cell? ⟨w.heap.size + 1, 0, none⟩ = some (.int .i64 k2) ∧ w'.cell? ⟨w.heap.size + 1, 1, none⟩ = some (.int .i64 n2) ∧ w'.cell? ⟨w.heap.size + 1, 2, none⟩ = some (.string s2) ∧ Hid (PtSt w w' ((k, n), s) ((k2, n2), s2)))
              (first | exact ⟨by assumption, by assumption, by assumption, by assumption, by assumption, by assumption, by assumption⟩ | go_keep)
              (first
                | (go_at_call 26; refine (unhide COX _ (by assumption : Hid (PtSt w _ ((k, n), s) ((k2, n2), s2))).out).mono ?_; rintro e w' ⟨rfl, hq⟩; have q0 := hq.la.c0; have q1 := hq.la.c1; have q2 := hq.la.c2; have q3 := hq.lb.c0; have q4 := hq.lb.c1; have q5 := hq.lb.c2; simp only at q0 q1 q2 q3 q4 q5; have HQ := hide hq; clear hq))
            have HQ2 := (by assumption : Hid (PtSt w _ ((k, n), s) ((k2, n2), s2)))
            go_wp2_with fail
            refine (unhide CTX _ HQ2.out).mono ?_
            rintro e w5 ⟨rfl, hq⟩
            go_wp2_with fail
            go_ret
            exact ⟨by rw [HV.out] <;> rfl, hq.bel⟩
          · have hsl : ¬ s2.toList = os.toList := fun h => hs (ba_ext' (by rw [← ByteArray.toList_eq, ← ByteArray.toList_eq]; exact h))
            have hsb2 : (s2.toList == os.toList) = false := by simp [hsl]
            have hv := HPT3.out
            rw [if_neg (fun h => hs (congrArg (fun x : LnD => x.2) h))] at hv
            have HV := hide hv
            clear hv HPT3
            go_upto_region 3 with fail
            have STd : Hid (PtSt w w2.drew ((k, n), s) ((k2, n2), s2)) := hide ((ST2.out).next (Below.refl _ w2).drew)
            have a0 := (STd.out).la.c0
            have a1 := (STd.out).la.c1
            have a2 := (STd.out).la.c2
            have c0 := (STd.out).lb.c0
            have c1 := (STd.out).lb.c1
            have c2 := (STd.out).lb.c2
            simp only at a0 a1 a2 c0 c1 c2
            clear ST2
            go_region_held3 (fun w' => w'.cell? ⟨w.heap.size, 0, none⟩ = some (.int .i64 k) ∧ w'.cell? ⟨w.heap.size, 1, none⟩ = some (.int .i64 n) ∧ w'.cell? ⟨w.heap.size, 2, none⟩ = some (.string s) ∧ w'.cell? ⟨w.heap.size + 1, 0, none⟩ = some (.int .i64 k2) ∧ w'.cell? ⟨w.heap.size + 1, 1, none⟩ = some (.int .i64 n2) ∧ w'.cell? ⟨w.heap.size + 1, 2, none⟩ = some (.string s2) ∧ Hid (PtSt w w' ((k, n), s) ((k2, n2), s2)))
              (first | exact ⟨by assumption, by assumption, by assumption, by assumption, by assumption, by assumption, by assumption⟩ | go_keep)
              (first
                | (go_at_call 26; refine (unhide COX _ (by assumption : Hid (PtSt w _ ((k, n), s) ((k2, n2), s2))).out).mono ?_; rintro e w' ⟨rfl, hq⟩; have q0 := hq.la.c0; have q1 := hq.la.c1; have q2 := hq.la.c2; have q3 := hq.lb.c0; have q4 := hq.lb.c1; have q5 := hq.lb.c2; simp only at q0 q1 q2 q3 q4 q5; have HQ := hide hq; clear hq))
            have HQ2 := (by assumption : Hid (PtSt w _ ((k, n), s) ((k2, n2), s2)))
            go_upto_region 5 with fail
            have STe := hide ((HQ2.out).next (Below.refl _ _).drew)
            have g0 := (STe.out).la.c0
            have g1 := (STe.out).la.c1
            have g2 := (STe.out).la.c2
            have g3 := (STe.out).lb.c0
            have g4 := (STe.out).lb.c1
            have g5 := (STe.out).lb.c2
            simp only at g0 g1 g2 g3 g4 g5
            go_region_held3 (fun w' => w'.cell? ⟨w.heap.size, 0, none⟩ = some (.int .i64 k) ∧ w'.cell? ⟨w.heap.size, 1, none⟩ = some (.int .i64 n) ∧ w'.cell? ⟨w.heap.size, 2, none⟩ = some (.string s) ∧ w'.cell? ⟨w.heap.size + 1, 0, none⟩ = some (.int .i64 k2) ∧ w'.cell? ⟨w.heap.size + 1, 1, none⟩ = some (.int .i64 n2) ∧ w'.cell? ⟨w.heap.size + 1, 2, none⟩ = some (.string s2) ∧ Hid (PtSt w w' ((k, n), s) ((k2, n2), s2)))
              (first | exact ⟨by assumption, by assumption, by assumption, by assumption, by assumption, by assumption, by assumption⟩ | go_keep)
              (first
                | (go_at_call_of 10 (Value.string s); refine (unhide CTX _ (by assumption : Hid (PtSt w _ ((k, n), s) ((k2, n2), s2))).out).mono ?_; rintro e w' ⟨rfl, hq⟩; have q0 := hq.la.c0; have q1 := hq.la.c1; have q2 := hq.la.c2; have q3 := hq.lb.c0; have q4 := hq.lb.c1; have q5 := hq.lb.c2; simp only at q0 q1 q2 q3 q4 q5; have HQ := hide hq; clear hq)
                | (go_at_call_of 10 (Value.string s2); refine (unhide CTY _ (by assumption : Hid (PtSt w _ ((k, n), s) ((k2, n2), s2))).out).mono ?_; rintro e w' ⟨rfl, hq⟩; have q0 := hq.la.c0; have q1 := hq.la.c1; have q2 := hq.la.c2; have q3 := hq.lb.c0; have q4 := hq.lb.c1; have q5 := hq.lb.c2; simp only at q0 q1 q2 q3 q4 q5; have HQ := hide hq; clear hq))
            go_wp2_with fail
            go_ret
            exact ⟨by rw [HV.out] <;> rfl, (by assumption : Hid (PtSt w _ ((k, n), s) ((k2, n2), s2))).out.bel⟩
        · have hv := HPT3.out
          rw [if_neg (fun h => hn (congrArg (fun x : LnD => x.1.2) h))] at hv
          have HV := hide hv
          clear hv HPT3
          go_upto_region 3 with fail
          have STd : Hid (PtSt w w2.drew ((k, n), s) ((k2, n2), s2)) := hide ((ST2.out).next (Below.refl _ w2).drew)
          have a0 := (STd.out).la.c0
          have a1 := (STd.out).la.c1
          have a2 := (STd.out).la.c2
          have c0 := (STd.out).lb.c0
          have c1 := (STd.out).lb.c1
          have c2 := (STd.out).lb.c2
          simp only at a0 a1 a2 c0 c1 c2
          clear ST2
          go_region_held3 (fun w' => w'.cell? ⟨w.heap.size, 0, none⟩ = some (.int .i64 k) ∧ w'.cell? ⟨w.heap.size, 1, none⟩ = some (.int .i64 n) ∧ w'.cell? ⟨w.heap.size, 2, none⟩ = some (.string s) ∧ w'.cell? ⟨w.heap.size + 1, 0, none⟩ = some (.int .i64 k2) ∧ w'.cell? ⟨w.heap.size + 1, 1, none⟩ = some (.int .i64 n2) ∧ w'.cell? ⟨w.heap.size + 1, 2, none⟩ = some (.string s2) ∧ Hid (PtSt w w' ((k, n), s) ((k2, n2), s2)))
            (first | exact ⟨by assumption, by assumption, by assumption, by assumption, by assumption, by assumption, by assumption⟩ | go_keep)
            (first
              | (go_at_call 26; refine (unhide COX _ (by assumption : Hid (PtSt w _ ((k, n), s) ((k2, n2), s2))).out).mono ?_; rintro e w' ⟨rfl, hq⟩; have q0 := hq.la.c0; have q1 := hq.la.c1; have q2 := hq.la.c2; have q3 := hq.lb.c0; have q4 := hq.lb.c1; have q5 := hq.lb.c2; simp only at q0 q1 q2 q3 q4 q5; have HQ := hide hq; clear hq))
          have HQ2 := (by assumption : Hid (PtSt w _ ((k, n), s) ((k2, n2), s2)))
          go_upto_region 5 with fail
          have STe := hide ((HQ2.out).next (Below.refl _ _).drew)
          have g0 := (STe.out).la.c0
          have g1 := (STe.out).la.c1
          have g2 := (STe.out).la.c2
          have g3 := (STe.out).lb.c0
          have g4 := (STe.out).lb.c1
          have g5 := (STe.out).lb.c2
          simp only at g0 g1 g2 g3 g4 g5
          go_region_held3 (fun w' => w'.cell? ⟨w.heap.size, 0, none⟩ = some (.int .i64 k) ∧ w'.cell? ⟨w.heap.size, 1, none⟩ = some (.int .i64 n) ∧ w'.cell? ⟨w.heap.size, 2, none⟩ = some (.string s) ∧ w'.cell? ⟨w.heap.size + 1, 0, none⟩ = some (.int .i64 k2) ∧ w'.cell? ⟨w.heap.size + 1, 1, none⟩ = some (.int .i64 n2) ∧ w'.cell? ⟨w.heap.size + 1, 2, none⟩ = some (.string s2) ∧ Hid (PtSt w w' ((k, n), s) ((k2, n2), s2)))
            (first | exact ⟨by assumption, by assumption, by assumption, by assumption, by assumption, by assumption, by assumption⟩ | go_keep)
            (first
              | (go_at_call_of 10 (Value.string s); refine (unhide CTX _ (by assumption : Hid (PtSt w _ ((k, n), s) ((k2, n2), s2))).out).mono ?_; rintro e w' ⟨rfl, hq⟩; have q0 := hq.la.c0; have q1 := hq.la.c1; have q2 := hq.la.c2; have q3 := hq.lb.c0; have q4 := hq.lb.c1; have q5 := hq.lb.c2; simp only at q0 q1 q2 q3 q4 q5; have HQ := hide hq; clear hq)
              | (go_at_call_of 10 (Value.string s2); refine (unhide CTY _ (by assumption : Hid (PtSt w _ ((k, n), s) ((k2, n2), s2))).out).mono ?_; rintro e w' ⟨rfl, hq⟩; have q0 := hq.la.c0; have q1 := hq.la.c1; have q2 := hq.la.c2; have q3 := hq.lb.c0; have q4 := hq.lb.c1; have q5 := hq.lb.c2; simp only at q0 q1 q2 q3 q4 q5; have HQ := hide hq; clear hq))
          go_wp2_with fail
          go_ret
          exact ⟨by rw [HV.out] <;> rfl, (by assumption : Hid (PtSt w _ ((k, n), s) ((k2, n2), s2))).out.bel⟩
      · have hv := HPT3.out
        rw [if_neg (fun h => hk (congrArg (fun x : LnD => x.1.1) h))] at hv
        have HV := hide hv
        clear hv HPT3
        go_upto_region 3 with fail
        have STd : Hid (PtSt w w2.drew ((k, n), s) ((k2, n2), s2)) := hide ((ST2.out).next (Below.refl _ w2).drew)
        have a0 := (STd.out).la.c0
        have a1 := (STd.out).la.c1
        have a2 := (STd.out).la.c2
        have c0 := (STd.out).lb.c0
        have c1 := (STd.out).lb.c1
        have c2 := (STd.out).lb.c2
        simp only at a0 a1 a2 c0 c1 c2
        clear ST2
        go_region_held3 (fun w' => w'.cell? ⟨w.heap.size, 0, none⟩ = some (.int .i64 k) ∧ w'.cell? ⟨w.heap.size, 1, none⟩ = some (.int .i64 n) ∧ w'.cell? ⟨w.heap.size, 2, none⟩ = some (.string s) ∧ w'.cell? ⟨w.heap.size + 1, 0, none⟩ = some (.int .i64 k2) ∧ w'.cell? ⟨w.heap.size + 1, 1, none⟩ = some (.int .i64 n2) ∧ w'.cell? ⟨w.heap.size + 1, 2, none⟩ = some (.string s2) ∧ Hid (PtSt w w' ((k, n), s) ((k2, n2), s2)))
          (first | exact ⟨by assumption, by assumption, by assumption, by assumption, by assumption, by assumption, by assumption⟩ | go_keep)
          (first
            | (go_at_call 26; refine (unhide COX _ (by assumption : Hid (PtSt w _ ((k, n), s) ((k2, n2), s2))).out).mono ?_; rintro e w' ⟨rfl, hq⟩; have q0 := hq.la.c0; have q1 := hq.la.c1; have q2 := hq.la.c2; have q3 := hq.lb.c0; have q4 := hq.lb.c1; have q5 := hq.lb.c2; simp only at q0 q1 q2 q3 q4 q5; have HQ := hide hq; clear hq))
        have HQ2 := (by assumption : Hid (PtSt w _ ((k, n), s) ((k2, n2), s2)))
        go_upto_region 5 with fail
        have STe := hide ((HQ2.out).next (Below.refl _ _).drew)
        have g0 := (STe.out).la.c0
        have g1 := (STe.out).la.c1
        have g2 := (STe.out).la.c2
        have g3 := (STe.out).lb.c0
        have g4 := (STe.out).lb.c1
        have g5 := (STe.out).lb.c2
        simp only at g0 g1 g2 g3 g4 g5
        go_region_held3 (fun w' => w'.cell? ⟨w.heap.size, 0, none⟩ = some (.int .i64 k) ∧ w'.cell? ⟨w.heap.size, 1, none⟩ = some (.int .i64 n) ∧ w'.cell? ⟨w.heap.size, 2, none⟩ = some (.string s) ∧ w'.cell? ⟨w.heap.size + 1, 0, none⟩ = some (.int .i64 k2) ∧ w'.cell? ⟨w.heap.size + 1, 1, none⟩ = some (.int .i64 n2) ∧ w'.cell? ⟨w.heap.size + 1, 2, none⟩ = some (.string s2) ∧ Hid (PtSt w w' ((k, n), s) ((k2, n2), s2)))
          (first | exact ⟨by assumption, by assumption, by assumption, by assumption, by assumption, by assumption, by assumption⟩ | go_keep)
          (first
            | (go_at_call_of 10 (Value.string s); refine (unhide CTX _ (by assumption : Hid (PtSt w _ ((k, n), s) ((k2, n2), s2))).out).mono ?_; rintro e w' ⟨rfl, hq⟩; have q0 := hq.la.c0; have q1 := hq.la.c1; have q2 := hq.la.c2; have q3 := hq.lb.c0; have q4 := hq.lb.c1; have q5 := hq.lb.c2; simp only at q0 q1 q2 q3 q4 q5; have HQ := hide hq; clear hq)
            | (go_at_call_of 10 (Value.string s2); refine (unhide CTY _ (by assumption : Hid (PtSt w _ ((k, n), s) ((k2, n2), s2))).out).mono ?_; rintro e w' ⟨rfl, hq⟩; have q0 := hq.la.c0; have q1 := hq.la.c1; have q2 := hq.la.c2; have q3 := hq.lb.c0; have q4 := hq.lb.c1; have q5 := hq.lb.c2; simp only at q0 q1 q2 q3 q4 q5; have HQ := hide hq; clear hq))
        go_wp2_with fail
        go_ret
        exact ⟨by rw [HV.out] <;> rfl, (by assumption : Hid (PtSt w _ ((k, n), s) ((k2, n2), s2))).out.bel⟩

end Go.Proofs.YtbnfggnklhfimaaGreatDoor

/- Several lines, read by the document's own way: walked. -/
namespace Go.Proofs.YtbnfggnklhfimaaGreatDoor
open Go.RowKit

theorem own_put {w : World} {base e size n V i : Nat} {v y : Value} {xs : List Value} (h : w.ownsRow base e size v n xs) (hne : v.ownBlock ≠ some V) : (w.setCell ⟨V, i, none⟩ y).ownsRow base e size v n xs := by
  obtain ⟨h1, h2⟩ := h
  refine ⟨h1, ?_⟩
  rcases h2 with h2 | ⟨g, cap, cur, hv, hg, hh, r⟩
  · exact .inl h2
  · refine .inr ⟨g, cap, cur, hv, hg, (Below.heap_setCell _ _ _ _ (fun e => hne ?_)).trans hh, r⟩
    rw [hv, show g = V from e]; rfl

theorem own_ne {w : World} {base T V n : Nat} {v a b c : Value} {xs : List Value} (h : w.ownsRow base T 3 v n xs) (hb : w.heap[V]? = some (.cells #[a, b, c] T (0, 0))) (hn : 2 ≤ n) : v.ownBlock ≠ some V := by
  rcases h.2 with ⟨rfl, _⟩ | ⟨g, cap, cur, rfl, _, hgb, h1, h2, h3, _⟩
  · simp [Value.ownBlock]
  · intro e'
    obtain rfl : g = V := by simpa [Value.ownBlock] using e'
    rw [hb] at hgb
    simp at hgb
    rw [← hgb] at h3
    simp at h3
    omega

theorem LsSt.put {w w1 : World} {v : Value} {l : List Tk} {V : Nat} {x : LnD} {u : Value} {acc : List LnD} (h : LsSt w w1 v l V x u acc) (k n : Int) (s : ByteArray) :
    LsSt w (((w1.setCell ⟨V, 0, none⟩ (.int .i64 k)).setCell ⟨V, 1, none⟩ (.int .i64 n)).setCell ⟨V, 2, none⟩ (.string s)) v l V ((k, n), s) u acc := by
  have hB := below_three h.bel h.hv (.int .i64 k) (.int .i64 n) (.string s)
  exact ⟨h.tv.below hB, ((h.box.set0 k).set1 n).set2 s, own_put (own_put (own_put h.own h.ne) h.ne) h.ne, h.ne, hB, h.hv, h.tv⟩

end Go.Proofs.YtbnfggnklhfimaaGreatDoor

/- Pairs of lines and four of them, read by the document's own way. -/
namespace Go.Proofs.YtbnfggnklhfimaaGreatDoor
open Go.RowKit

theorem lines_bad {l : List Tk} : ∀ {f : Nat} {i a e : Int}, linesR l f i = .error (a, e) → ¬ e = 0
  | 0, i, a, e, h => by cases h
  | f + 1, i, a, e, h => by
    by_cases h0 : (lineR l i).2.2 = 0
    · rw [lines_cons h0] at h
      unfold restR at h
      split at h
      · cases h
      · cases hr : linesR l f ((lineR l i).2.1 + 1) with
        | error p =>
          rw [hr] at h
          obtain ⟨a', e'⟩ := p
          simp only [addL, Except.error.injEq, Prod.mk.injEq] at h
          rw [← h.2]
          exact lines_bad hr
        | ok p => rw [hr] at h; cases h
    · rw [lines_err h0] at h
      simp only [Except.error.injEq, Prod.mk.injEq] at h
      rw [← h.2]
      exact h0

theorem lines_len {l : List Tk} : ∀ {f : Nat} {i j : Int} {xs : List LnD}, linesR l (f + 1) i = .ok (xs, j) → 1 ≤ xs.length ∧ xs.length ≤ f + 1
  | f, i, j, xs, h => by
    by_cases h0 : (lineR l i).2.2 = 0
    · rw [lines_cons h0] at h
      unfold restR at h
      split at h
      · simp only [addL, Except.ok.injEq, Prod.mk.injEq] at h
        rw [← h.1]
        simp
      · rename_i hc
        cases hr : linesR l f ((lineR l i).2.1 + 1) with
        | error p => rw [hr] at h; cases h
        | ok p =>
          obtain ⟨ys, j'⟩ := p
          rw [hr] at h
          simp only [addL, Except.ok.injEq, Prod.mk.injEq] at h
          cases f with
          | zero => exact absurd (.inl rfl) hc
          | succ f =>
            have ih := lines_len hr
            rw [← h.1]
            simp
            omega
    · rw [lines_err h0] at h
      cases h

theorem own_some {w : World} {base e size n : Nat} {v : Value} {xs : List Value} (h : w.ownsRow base e size v n xs) (hn : 1 ≤ n) : ∃ g cap, v = .slice (some ⟨g, 0, none⟩) n cap ∧ base ≤ g ∧ g < w.heap.size := by
  rcases h.2 with ⟨_, h0⟩ | ⟨g, cap, cur, hv, hg, hh, _⟩
  · omega
  · exact ⟨g, cap, hv, hg, (Array.getElem?_eq_some_iff.1 hh).1⟩

def pairE (p : (LnD × LnD) × Int × Int) : Value := .tuple #[lnA p.1.1, lnA p.1.2, .int .i64 p.2.1, .int .i64 p.2.2]

/-- Two lines that are answered lie in their boxes. -/
structure TwoSt (w wr : World) : Prop where
  z : LnAt wr w.heap.size noLn
  y : LnAt wr (w.heap.size + 1) noLn
  bel : Below w.heap.size w wr

theorem TwoSt.next {w w1 w2 : World} (h : TwoSt w w1) (hb : Below w1.heap.size w1 w2) : TwoSt w w2 := ⟨h.z.below hb h.z.lt, h.y.below hb h.y.lt, h.bel.trans (hb.mono h.bel.size)⟩

theorem TwoSt.new (w : World) : TwoSt w ((w.alloc (.cells #[.int .i64 0, .int .i64 0, .string ⟨#[]⟩] 23)).alloc (.cells #[.int .i64 0, .int .i64 0, .string ⟨#[]⟩] 23)) := by
  have hb := (Below.refl _ w).alloc (Nat.le_refl _) (.cells #[.int .i64 0, .int .i64 0, .string ⟨#[]⟩] 23)
  have h1 := LnAt.new w 0 0 ⟨#[]⟩
  have hb2 := (Below.refl _ (w.alloc (.cells #[.int .i64 0, .int .i64 0, .string ⟨#[]⟩] 23))).alloc (Nat.le_refl _) (.cells #[.int .i64 0, .int .i64 0, .string ⟨#[]⟩] 23)
  have h2 := LnAt.new (w.alloc (.cells #[.int .i64 0, .int .i64 0, .string ⟨#[]⟩] 23)) 0 0 ⟨#[]⟩
  refine ⟨h1.below hb2 h1.lt, ?_, hb.trans (hb2.mono hb.size)⟩
  simpa [noLn] using h2

theorem below_two3 {B b c : Nat} {w w' : World} (h : Below B w w') (hb : B ≤ b) (hc : B ≤ c) (x y z u v q : Value) : Below B w ((((((w'.setCell ⟨b, 0, none⟩ x).setCell ⟨b, 1, none⟩ y).setCell ⟨b, 2, none⟩ z).setCell ⟨c, 0, none⟩ u).setCell ⟨c, 1, none⟩ v).setCell ⟨c, 2, none⟩ q) := below_three (below_three h hb x y z) hc u v q

end Go.Proofs.YtbnfggnklhfimaaGreatDoor

/- Four lines: their values and boxes. -/
namespace Go.Proofs.YtbnfggnklhfimaaGreatDoor
open Go.RowKit

/-- Four lines as a value. -/
def fourA (p : LnD × LnD × LnD × LnD) : Value := .agg #[.int .i64 p.1.1.1, .int .i64 p.1.1.2, .string p.1.2, .int .i64 p.2.1.1.1, .int .i64 p.2.1.1.2, .string p.2.1.2, .int .i64 p.2.2.1.1.1, .int .i64 p.2.2.1.1.2, .string p.2.2.1.2, .int .i64 p.2.2.2.1.1, .int .i64 p.2.2.2.1.2, .string p.2.2.2.2]

def fourE (p : (LnD × LnD × LnD × LnD) × Int × Int) : Value := .tuple #[fourA p.1, .int .i64 p.2.1, .int .i64 p.2.2]

/-- Four empty lines in a box. -/
def Four0 (w : World) (b : Nat) : Prop := w.heap[b]? = some (.cells #[.int .i64 0, .int .i64 0, .string ⟨#[]⟩, .int .i64 0, .int .i64 0, .string ⟨#[]⟩, .int .i64 0, .int .i64 0, .string ⟨#[]⟩, .int .i64 0, .int .i64 0, .string ⟨#[]⟩] 36 (0, 0))

theorem Four0.lt {w : World} {b : Nat} (h : Four0 w b) : b < w.heap.size := (Array.getElem?_eq_some_iff.1 h).1

theorem Four0.z {w : World} {b : Nat} (h : Four0 w b) (i : Nat) : w.frozen? ⟨b, i, none⟩ = false := Lib.frozen_of_heap h i

theorem Four0.below {w w' : World} {B b : Nat} (h : Four0 w b) (hb : Below B w w') (hB : b < B) : Four0 w' b := (hb.block b hB).trans h

theorem Four0.c0 {w : World} {b : Nat} (h : Four0 w b) : w.cell? ⟨b, 0, none⟩ = some (.int .i64 0) := by rw [Lib.cell_of_heap h]; rfl

theorem Four0.c1 {w : World} {b : Nat} (h : Four0 w b) : w.cell? ⟨b, 1, none⟩ = some (.int .i64 0) := by rw [Lib.cell_of_heap h]; rfl

theorem Four0.c2 {w : World} {b : Nat} (h : Four0 w b) : w.cell? ⟨b, 2, none⟩ = some (.string ⟨#[]⟩) := by rw [Lib.cell_of_heap h]; rfl

theorem Four0.c3 {w : World} {b : Nat} (h : Four0 w b) : w.cell? ⟨b, 3, none⟩ = some (.int .i64 0) := by rw [Lib.cell_of_heap h]; rfl

theorem Four0.c4 {w : World} {b : Nat} (h : Four0 w b) : w.cell? ⟨b, 4, none⟩ = some (.int .i64 0) := by rw [Lib.cell_of_heap h]; rfl

theorem Four0.c5 {w : World} {b : Nat} (h : Four0 w b) : w.cell? ⟨b, 5, none⟩ = some (.string ⟨#[]⟩) := by rw [Lib.cell_of_heap h]; rfl

theorem Four0.c6 {w : World} {b : Nat} (h : Four0 w b) : w.cell? ⟨b, 6, none⟩ = some (.int .i64 0) := by rw [Lib.cell_of_heap h]; rfl

theorem Four0.c7 {w : World} {b : Nat} (h : Four0 w b) : w.cell? ⟨b, 7, none⟩ = some (.int .i64 0) := by rw [Lib.cell_of_heap h]; rfl

theorem Four0.c8 {w : World} {b : Nat} (h : Four0 w b) : w.cell? ⟨b, 8, none⟩ = some (.string ⟨#[]⟩) := by rw [Lib.cell_of_heap h]; rfl

theorem Four0.c9 {w : World} {b : Nat} (h : Four0 w b) : w.cell? ⟨b, 9, none⟩ = some (.int .i64 0) := by rw [Lib.cell_of_heap h]; rfl

theorem Four0.c10 {w : World} {b : Nat} (h : Four0 w b) : w.cell? ⟨b, 10, none⟩ = some (.int .i64 0) := by rw [Lib.cell_of_heap h]; rfl

theorem Four0.c11 {w : World} {b : Nat} (h : Four0 w b) : w.cell? ⟨b, 11, none⟩ = some (.string ⟨#[]⟩) := by rw [Lib.cell_of_heap h]; rfl

theorem below_twelve {B b : Nat} {w w' : World} (h : Below B w w') (hb : B ≤ b) (v0 v1 v2 v3 v4 v5 v6 v7 v8 v9 v10 v11 : Value) : Below B w ((((((((((((w'.setCell ⟨b, 0, none⟩ v0).setCell ⟨b, 1, none⟩ v1).setCell ⟨b, 2, none⟩ v2).setCell ⟨b, 3, none⟩ v3).setCell ⟨b, 4, none⟩ v4).setCell ⟨b, 5, none⟩ v5).setCell ⟨b, 6, none⟩ v6).setCell ⟨b, 7, none⟩ v7).setCell ⟨b, 8, none⟩ v8).setCell ⟨b, 9, none⟩ v9).setCell ⟨b, 10, none⟩ v10).setCell ⟨b, 11, none⟩ v11) := ((((((((((((h.setCell (p := ⟨b, 0, none⟩) hb v0).setCell (p := ⟨b, 1, none⟩) hb v1).setCell (p := ⟨b, 2, none⟩) hb v2).setCell (p := ⟨b, 3, none⟩) hb v3).setCell (p := ⟨b, 4, none⟩) hb v4).setCell (p := ⟨b, 5, none⟩) hb v5).setCell (p := ⟨b, 6, none⟩) hb v6).setCell (p := ⟨b, 7, none⟩) hb v7).setCell (p := ⟨b, 8, none⟩) hb v8).setCell (p := ⟨b, 9, none⟩) hb v9).setCell (p := ⟨b, 10, none⟩) hb v10).setCell (p := ⟨b, 11, none⟩) hb v11)

/-- What Four keeps: its own box, and the lines so far. -/
structure FrSt (w wr : World) (u : Value) (xs : List LnD) : Prop where
  z : Four0 wr w.heap.size
  own : wr.ownsRow (w.heap.size + 1) 23 3 u xs.length (lnCells xs)
  bel : Below w.heap.size w wr

theorem FrSt.next {w w1 w2 : World} {u : Value} {xs : List LnD} (h : FrSt w w1 u xs) (hb : Below w1.heap.size w1 w2) : FrSt w w2 u xs := ⟨h.z.below hb h.z.lt, own_below h.own hb, h.bel.trans (hb.mono h.bel.size)⟩

theorem FrSt.more {w w1 w2 : World} {u v' : Value} {xs : List LnD} {k n : Int} {s : ByteArray} (h : FrSt w w1 u xs) (hown' : w2.ownsRow (w.heap.size + 1) 23 3 v' (xs.length + 1) (lnCells xs ++ [.int .i64 k, .int .i64 n, .string s])) (hgrow : (w1.alloc (.cells #[.int .i64 k, .int .i64 n, .string s] 23)).grownBy w2 u.ownBlock) :
    FrSt w w2 v' (xs ++ [((k, n), s)]) := by
  have hrow : ∀ i, u.ownBlock = some i → w.heap.size + 1 ≤ i := fun i hi => (h.own.lt i hi).1
  have hzl := h.z.lt
  have hsz := h.bel.size
  have bb : Below w1.heap.size w1 (w1.alloc (.cells #[.int .i64 k, .int .i64 n, .string s] 23)) := (Below.refl _ w1).alloc (Nat.le_refl _) _
  refine ⟨?_, ?_, ?_⟩
  · exact (hgrow.block w.heap.size (by simp; omega) (fun e => by have := hrow _ e.symm; omega)).trans ((bb.block w.heap.size hzl).trans h.z)
  · rw [show (xs ++ [((k, n), s)]).length = xs.length + 1 by simp, lnCells_snoc]
    exact hown'
  · exact (h.bel.trans (bb.mono hsz)).grown hgrow (by simp; omega) (fun i hi => by have := hrow i hi; omega)

theorem FrSt.cell {w wr : World} {g n cap : Nat} {xs : List LnD} (h : FrSt w wr (.slice (some ⟨g, 0, none⟩) n cap) xs) (hn : n = xs.length) (j : Nat) (hj : j < xs.length * 3) : wr.cell? ⟨g, j, none⟩ = (lnCells xs)[j]? := by
  subst hn
  exact h.own.cellAt j hj

theorem fill_two (a : LnD) : fillL [a] = fillL [a, otherL a] := by simp [fillL]

theorem fill_three (a b : LnD) : fillL [a, b] = fillL [a, b, otherL a] := by simp [fillL]

theorem fill_four (a b c : LnD) : fillL [a, b, c] = fillL [a, b, c, otherL b] := by simp [fillL]

end Go.Proofs.YtbnfggnklhfimaaGreatDoor

/- The statements of lines: their own small functions. -/
namespace Go.Proofs.YtbnfggnklhfimaaGreatDoor
open Go.RowKit

set_option maxRecDepth 100000 in
set_option maxHeartbeats 4000000 in
theorem words7_any (s : ByteArray) (w : World) (hs : s.size ≤ 65536) (hm : MaxAt w) :
    Calls Tryz.prog 13 #[.string s] w fun e w' => Below w.heap.size w w' ∧ WordsR s e w' := by
  have hcv := Lib.run_convert_string_bytes (P := Tryz.prog) w 9 48 5 s Tryz.underlying9 Tryz.underlying48 Tryz.underlying5
  have ct := fun c => tokS_any s c w hs hm
  have CT := hide ct
  clear ct hm
  unfold WordsR
  cases ht : tokV s with
  | error x =>
    have HT := hide ht
    clear ht
    go_enter Tryz.func13, Tryz.ntmps13
    go_wp2_with fail
    refine Calls.mono (unhide CT _) ?_
    rintro e w1 ⟨hb, hr⟩
    rw [HT.out] at hr
    obtain ⟨xa, xe⟩ := x
    obtain rfl : e = _ := hr
    clear CT HT
    go_wp2_with fail
    go_ret
    exact ⟨hb, rfl⟩
  | ok l =>
    have HT := hide ht
    clear ht
    go_enter Tryz.func13, Tryz.ntmps13
    go_wp2_with fail
    refine Calls.mono (unhide CT _) ?_
    rintro e w1 ⟨hb, hr⟩
    rw [HT.out] at hr
    obtain ⟨v, rfl, hown⟩ := hr
    have hn : 0 < l.length := by
      have ht := HT.out
      unfold tokV at ht
      split at ht
      · cases ht
      · split at ht
        · cases ht
        · split at ht
          · cases ht
          · cases ht; simp
    have HX := hide (tks_own hown hn)
    obtain ⟨ao, cap, rfl⟩ : ∃ ao cap, v = .slice ao l.length cap := by
      rcases hown.2 with ⟨hv, h0⟩ | ⟨g, cap, cur, hv, _⟩
      · exact ⟨none, 0, by rw [h0]; exact hv⟩
      · exact ⟨_, _, hv⟩
    clear CT HT hown hn
    go_wp2_with fail
    go_ret
    exact ⟨hb, _, rfl, HX.out⟩

/-- Words that are not more than are looked at. -/
def fewV (n m : Nat) (l : List Tk) : Bool := decide (l.length ≤ n) && l.all fun x => decide (x.2.2.size ≤ m) && decide (x.2.1.size ≤ m)

theorem few_short {n m : Nat} {l : List Tk} (h : fewV n m l = true) (hn : n ≤ 1000000) (hm : m ≤ 2000) : Short l ∧ ∀ i, (tkV l i).2.2.size ≤ 2000 := by
  unfold fewV at h
  simp only [Bool.and_eq_true, decide_eq_true_iff, List.all_eq_true] at h
  refine ⟨⟨by omega, fun x hx => by have := h.2 x hx; omega⟩, fun i => ?_⟩
  unfold tkV
  split
  · exact Nat.le_of_ble_eq_true rfl
  · by_cases hi : i.toNat < l.length
    · rw [List.getD, List.getElem?_eq_getElem hi]
      have := (h.2 _ (List.getElem_mem hi)).1
      simp only [Option.getD_some]
      omega
    · rw [List.getD, List.getElem?_eq_none (by omega)]
      exact Nat.le_of_ble_eq_true rfl

theorem few_no {n m : Nat} {l : List Tk} (h : n < l.length) : fewV n m l = false := by unfold fewV; rw [decide_eq_false (by omega)]; rfl

theorem few_big {n m j : Nat} {l : List Tk} {x : Tk} (h : l[j]? = some x) (hb : m < x.2.2.size ∨ m < x.2.1.size) : fewV n m l = false := by
  unfold fewV
  rw [Bool.and_eq_false_iff]
  right
  rw [List.all_eq_false]
  refine ⟨x, List.mem_of_getElem? h, ?_⟩
  simp
  omega

theorem few_yes {n m : Nat} {l : List Tk} (h : l.length ≤ n) (ha : ∀ i x, i < l.length → l[i]? = some x → x.2.1.size ≤ m ∧ x.2.2.size ≤ m) : fewV n m l = true := by
  unfold fewV
  simp only [Bool.and_eq_true, decide_eq_true_iff, List.all_eq_true]
  refine ⟨h, fun x hx => ?_⟩
  obtain ⟨i, hi⟩ := List.getElem?_of_mem hx
  have := ha i x (List.getElem?_eq_some_iff.1 hi).1 hi
  omega

end Go.Proofs.YtbnfggnklhfimaaGreatDoor
