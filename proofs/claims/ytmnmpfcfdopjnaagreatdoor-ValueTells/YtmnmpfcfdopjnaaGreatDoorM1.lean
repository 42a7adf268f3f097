/- The texts that this proof stands on, part 1 of 4. -/
import Derived.Shelf.Strings.Builder1
import Derived.Shelf.Strings.Trim
import Derived.Shelf.Small.Utf8
import Derived.Shelf.Small.Bits
import Derived.Shelf.Small.Strs
import Derived.Shelf.Strconv.Itoa0
import Derived.Shelf.Strconv.Itoa1
import Derived.Shelf.LaysM
import Derived.Shelf.Strconv.Itoa2
import Derived.Shelf.Strconv.Itoa3
import Derived.Shelf.Strings.Search1
import Derived.Shelf.Strings.Search2
import Derived.Shelf.Strings.Search3
import Derived.Shelf.Strings.Shaped
import Derived.Shelf.Strings.Prefix
import Derived.Shelf.Strings.Runes
import Derived.Shelf.Strings.IndexAny
import Derived.Shelf.Strings.AsciiSet
import Derived.Shelf.Strings.IndexAnyAll
import Derived.Shelf.Bits.Mul64
import Derived.Shelf.Unicode.DecodeSlow
import Derived.Shelf.Unicode.DecodeAny
import Derived.Shelf.Unicode.DecodeLast
import Derived.Shelf.Slices.Turned
import Derived.Test.YtmnmpfcfdopjnaaGreatDoorProg
import Derived.Below
import Derived.WalkSmall
import Derived.WalkKit
import Derived.Laws.BitsLemmas
import Derived.RangeFuncBox
import Derived.Outline
import Derived.WalkLawsBesides
import Derived.Laws.Bits64b
import Derived.Laws.BytesArg
import Derived.Laws.Strings2
import Derived.Shelf.Abstract
import Derived.Deep.DeepCutAuto
import Derived.Deep.CutBlock
import Derived.Laws.EntriesVeiled
import Derived.Lib.Strings
import Derived.Deep.OwnRows
import Derived.OwnWalk
import Derived.RowKit

/- The library's contracts at this program, laid by the kit's command. -/
namespace Go.Proofs
open Go.Shelf
def Tryz.lays170_ren : Go.Shelf.Ren := ⟨fun | 170 => 126 | n => n, fun | 70 => 131 | 3 => 3 | 0 => 0 | 72 => 133 | 37 => 52 | 5 => 5 | n => n, fun | n => n⟩
theorem Tryz.lays170 : Go.Proofs.Lays.n170 Tryz.prog Tryz.lays170_ren := {
  mixed := by kernel_rfl
  f170 := Tryz.func126.trans (congrArg some (by kernel_rfl))
  t0 := Tryz.underlying0
  a0 := Tryz.isAgg0
  z0 := Tryz.sizeOf0
  v0 := Tryz.zeroValue0
  t3 := Tryz.underlying3
  a3 := Tryz.isAgg3
  z3 := Tryz.sizeOf3
  v3 := Tryz.zeroValue3
  t37 := Tryz.underlying52
  a37 := Tryz.isAgg52
  z37 := Tryz.sizeOf52
  v37 := Tryz.zeroValue52
  t70 := Tryz.underlying131
  a70 := Tryz.isAgg131
  z70 := Tryz.sizeOf131
  v70 := Tryz.zeroValue131
  t72 := Tryz.underlying133
  a72 := Tryz.isAgg133
  z72 := Tryz.sizeOf133
  v72 := Tryz.zeroValue133 }
open Go.RowKit in
theorem Tryz.Builder_Len (B b : Nat) (bs : List Value) (w : World) (h : Lib.IsBuilder 133 5 B b bs w) :
    Calls Tryz.prog 126 #[.pointer (some ⟨b, 0, none⟩)] w fun e w' => e = .returned (.int .i64 bs.length) ∧ w' = w := Any.Builder_Len Tryz.lays170 B b bs w h
def Tryz.lays169_ren : Go.Shelf.Ren := ⟨fun | 169 => 106 | n => n, fun | 70 => 131 | 9 => 9 | 0 => 0 | 72 => 133 | 37 => 52 | 127 => 146 | 3 => 3 | 5 => 5 | n => n, fun | n => n⟩
theorem Tryz.lays169 : Go.Proofs.Lays.n169 Tryz.prog Tryz.lays169_ren := {
  mixed := by kernel_rfl
  f169 := Tryz.func106.trans (congrArg some (by kernel_rfl))
  t0 := Tryz.underlying0
  a0 := Tryz.isAgg0
  z0 := Tryz.sizeOf0
  v0 := Tryz.zeroValue0
  t3 := Tryz.underlying3
  a3 := Tryz.isAgg3
  z3 := Tryz.sizeOf3
  v3 := Tryz.zeroValue3
  t9 := Tryz.underlying9
  a9 := Tryz.isAgg9
  z9 := Tryz.sizeOf9
  v9 := Tryz.zeroValue9
  t37 := Tryz.underlying52
  a37 := Tryz.isAgg52
  z37 := Tryz.sizeOf52
  v37 := Tryz.zeroValue52
  t70 := Tryz.underlying131
  a70 := Tryz.isAgg131
  z70 := Tryz.sizeOf131
  v70 := Tryz.zeroValue131
  t72 := Tryz.underlying133
  a72 := Tryz.isAgg133
  z72 := Tryz.sizeOf133
  v72 := Tryz.zeroValue133
  t127 := Tryz.underlying146
  a127 := Tryz.isAgg146
  z127 := Tryz.sizeOf146
  v127 := Tryz.zeroValue146 }
theorem Tryz.Builder_Extra_169 : Builder.Extra Tryz.prog Tryz.lays169_ren := {
  sizeBuilder := by kernel_rfl
  liesBuilder := by kernel_rfl
  t5 := Tryz.underlying5
  a5 := Tryz.isAgg5
  z5 := Tryz.sizeOf5
  v5 := Tryz.zeroValue5
  infoByte := by kernel_rfl
  cellsByte := by kernel_rfl
  sizeByte := by kernel_rfl
  neB5 := by decide }
open Go.RowKit in
theorem Tryz.Builder_String (B b : Nat) (l : List UInt8) (w : World) (h : Lib.IsBuilder 133 5 B b (Lib.byteCells l) w) (h0 : l ≠ []) :
    Calls Tryz.prog 106 #[.pointer (some ⟨b, 0, none⟩)] w fun e w' => e = .returned (.string ⟨l.toArray⟩) ∧ Below B w w' := Any.Builder_String Tryz.lays169 Tryz.Builder_Extra_169 B b l w h h0
open Go.RowKit in
theorem Tryz.Builder_String_empty (B b : Nat) (w : World) (h : Lib.IsBuilder 133 5 B b [] w) (hBw : B ≤ w.heap.size) :
    Calls Tryz.prog 106 #[.pointer (some ⟨b, 0, none⟩)] w fun e w' => e = .returned (.string ⟨#[]⟩) ∧ Below B w w' := Any.Builder_String_empty Tryz.lays169 Tryz.Builder_Extra_169 B b w h hBw
open Go.RowKit in
theorem Tryz.Builder_String_any (B b : Nat) (l : List UInt8) (w : World) (h : Lib.IsBuilder 133 5 B b (Lib.byteCells l) w) (hBw : B ≤ w.heap.size) :
    Calls Tryz.prog 106 #[.pointer (some ⟨b, 0, none⟩)] w fun e w' => e = .returned (.string ⟨l.toArray⟩) ∧ Below B w w' := Any.Builder_String_any Tryz.lays169 Tryz.Builder_Extra_169 B b l w h hBw
def Tryz.lays231_ren : Go.Shelf.Ren := ⟨fun | 231 => 83 | n => n, fun | 9 => 9 | 5 => 5 | 3 => 3 | 4 => 4 | n => n, fun | n => n⟩
theorem Tryz.lays231 : Go.Proofs.Lays.n231 Tryz.prog Tryz.lays231_ren := {
  mixed := by kernel_rfl
  f231 := Tryz.func83.trans (congrArg some (by kernel_rfl))
  t3 := Tryz.underlying3
  a3 := Tryz.isAgg3
  z3 := Tryz.sizeOf3
  v3 := Tryz.zeroValue3
  t4 := Tryz.underlying4
  a4 := Tryz.isAgg4
  z4 := Tryz.sizeOf4
  v4 := Tryz.zeroValue4
  t5 := Tryz.underlying5
  a5 := Tryz.isAgg5
  z5 := Tryz.sizeOf5
  v5 := Tryz.zeroValue5
  t9 := Tryz.underlying9
  a9 := Tryz.isAgg9
  z9 := Tryz.sizeOf9
  v9 := Tryz.zeroValue9 }
open Go.RowKit in
theorem Tryz.strings_trimLeftByte (s : ByteArray) (c : UInt8) (w : World) :
    Calls Tryz.prog 83 #[.string s, .int .u8 c.toNat] w fun e w' => e = .returned (.string ⟨(Lib.trimLeftB s.data.toList c).toArray⟩) ∧ w' = w := Any.strings_trimLeftByte Tryz.lays231 s c w
def Tryz.lays232_ren : Go.Shelf.Ren := ⟨fun | 232 => 84 | n => n, fun | 9 => 9 | 5 => 5 | 3 => 3 | 4 => 4 | n => n, fun | n => n⟩
theorem Tryz.lays232 : Go.Proofs.Lays.n232 Tryz.prog Tryz.lays232_ren := {
  mixed := by kernel_rfl
  f232 := Tryz.func84.trans (congrArg some (by kernel_rfl))
  t3 := Tryz.underlying3
  a3 := Tryz.isAgg3
  z3 := Tryz.sizeOf3
  v3 := Tryz.zeroValue3
  t4 := Tryz.underlying4
  a4 := Tryz.isAgg4
  z4 := Tryz.sizeOf4
  v4 := Tryz.zeroValue4
  t5 := Tryz.underlying5
  a5 := Tryz.isAgg5
  z5 := Tryz.sizeOf5
  v5 := Tryz.zeroValue5
  t9 := Tryz.underlying9
  a9 := Tryz.isAgg9
  z9 := Tryz.sizeOf9
  v9 := Tryz.zeroValue9 }
open Go.RowKit in
theorem Tryz.strings_trimRightByte (s : ByteArray) (c : UInt8) (w : World) (hs : s.size ≤ 9223372036854775807) :
    Calls Tryz.prog 84 #[.string s, .int .u8 c.toNat] w fun e w' => e = .returned (.string ⟨(Lib.trimRightB s.data.toList c).toArray⟩) ∧ w' = w := Any.strings_trimRightByte Tryz.lays232 s c w hs
def Tryz.lays160_ren : Go.Shelf.Ren := ⟨fun | 160 => 58 | 232 => 84 | 231 => 83 | 227 => 81 | 234 => 86 | 233 => 85 | 236 => 88 | 235 => 87 | 228 => 82 | 271 => 116 | 151 => 115 | 197 => 114 | 120 => 130 | 152 => 79 | 260 => 129 | 137 => 70 | 119 => 111 | 224 => 112 | 225 => 113 | 217 => 104 | 266 => 127 | n => n, fun | 9 => 9 | 4 => 4 | 3 => 3 | 5 => 5 | 117 => 117 | 116 => 116 | 0 => 0 | 124 => 121 | 21 => 21 | 105 => 137 | 46 => 61 | 119 => 152 | 139 => 155 | 138 => 154 | n => n, fun | 3 => 5 | 4 => 6 | n => n⟩
theorem Tryz.lays160 : Go.Proofs.Lays.n160 Tryz.prog Tryz.lays160_ren := {
  mixed := by kernel_rfl
  f119 := Tryz.func111.trans (congrArg some (by kernel_rfl))
  f120 := Tryz.func130.trans (congrArg some (by kernel_rfl))
  f137 := Tryz.func70.trans (congrArg some (by kernel_rfl))
  f151 := Tryz.func115.trans (congrArg some (by kernel_rfl))
  f152 := Tryz.func79.trans (congrArg some (by kernel_rfl))
  f160 := Tryz.func58.trans (congrArg some (by kernel_rfl))
  f197 := Tryz.func114.trans (congrArg some (by kernel_rfl))
  f217 := Tryz.func104.trans (congrArg some (by kernel_rfl))
  f224 := Tryz.func112.trans (congrArg some (by kernel_rfl))
  f225 := Tryz.func113.trans (congrArg some (by kernel_rfl))
  f227 := Tryz.func81.trans (congrArg some (by kernel_rfl))
  f228 := Tryz.func82.trans (congrArg some (by kernel_rfl))
  f231 := Tryz.func83.trans (congrArg some (by kernel_rfl))
  f232 := Tryz.func84.trans (congrArg some (by kernel_rfl))
  f233 := Tryz.func85.trans (congrArg some (by kernel_rfl))
  f234 := Tryz.func86.trans (congrArg some (by kernel_rfl))
  f235 := Tryz.func87.trans (congrArg some (by kernel_rfl))
  f236 := Tryz.func88.trans (congrArg some (by kernel_rfl))
  f260 := Tryz.func129.trans (congrArg some (by kernel_rfl))
  f266 := Tryz.func127.trans (congrArg some (by kernel_rfl))
  f271 := Tryz.func116.trans (congrArg some (by kernel_rfl))
  t0 := Tryz.underlying0
  a0 := Tryz.isAgg0
  z0 := Tryz.sizeOf0
  v0 := Tryz.zeroValue0
  t3 := Tryz.underlying3
  a3 := Tryz.isAgg3
  z3 := Tryz.sizeOf3
  v3 := Tryz.zeroValue3
  t4 := Tryz.underlying4
  a4 := Tryz.isAgg4
  z4 := Tryz.sizeOf4
  v4 := Tryz.zeroValue4
  t5 := Tryz.underlying5
  a5 := Tryz.isAgg5
  z5 := Tryz.sizeOf5
  v5 := Tryz.zeroValue5
  t9 := Tryz.underlying9
  a9 := Tryz.isAgg9
  z9 := Tryz.sizeOf9
  v9 := Tryz.zeroValue9
  t21 := Tryz.underlying21
  a21 := Tryz.isAgg21
  z21 := Tryz.sizeOf21
  v21 := Tryz.zeroValue21
  t46 := Tryz.underlying61
  a46 := Tryz.isAgg61
  z46 := Tryz.sizeOf61
  v46 := Tryz.zeroValue61
  t105 := Tryz.underlying137
  a105 := Tryz.isAgg137
  z105 := Tryz.sizeOf137
  v105 := Tryz.zeroValue137
  t116 := Tryz.underlying116
  a116 := Tryz.isAgg116
  z116 := Tryz.sizeOf116
  t117 := Tryz.underlying117
  a117 := Tryz.isAgg117
  z117 := Tryz.sizeOf117
  v117 := Tryz.zeroValue117
  t119 := Tryz.underlying152
  a119 := Tryz.isAgg152
  z119 := Tryz.sizeOf152
  t124 := Tryz.underlying121
  a124 := Tryz.isAgg121
  z124 := Tryz.sizeOf121
  v124 := Tryz.zeroValue121
  t138 := Tryz.underlying154
  a138 := Tryz.isAgg154
  z138 := Tryz.sizeOf154
  v138 := Tryz.zeroValue154
  t139 := Tryz.underlying155
  a139 := Tryz.isAgg155
  z139 := Tryz.sizeOf155
  v139 := Tryz.zeroValue155
  g3 := by kernel_rfl
  g4 := by kernel_rfl }
open Go.RowKit in
theorem Tryz.strings_Trim_one (s : ByteArray) (c : UInt8) (hc : c.toNat < 128) (w : World) (hs : s.size ≤ 9223372036854775807) :
    Calls Tryz.prog 58 #[.string s, .string ⟨#[c]⟩] w fun e w' => e = .returned (.string ⟨(Lib.trimB s.data.toList c).toArray⟩) ∧ (w' = w ∨ w' = w.drew) := Any.strings_Trim_one Tryz.lays160 s c hc w hs
def Tryz.lays119_ren : Go.Shelf.Ren := ⟨fun | 119 => 111 | n => n, fun | 21 => 21 | 4 => 4 | n => n, fun | n => n⟩
theorem Tryz.lays119 : Go.Proofs.Lays.n119 Tryz.prog Tryz.lays119_ren := {
  mixed := by kernel_rfl
  f119 := Tryz.func111.trans (congrArg some (by kernel_rfl))
  t4 := Tryz.underlying4
  a4 := Tryz.isAgg4
  z4 := Tryz.sizeOf4
  v4 := Tryz.zeroValue4
  t21 := Tryz.underlying21
  a21 := Tryz.isAgg21
  z21 := Tryz.sizeOf21
  v21 := Tryz.zeroValue21 }
theorem Tryz.utf8_ValidRune (r : Int) (w : World) :
    Calls Tryz.prog 111 #[.int .i32 r] w fun e w' => e = .returned (.bool (Lib.validRune r)) ∧ w' = w := Any.utf8_ValidRune Tryz.lays119 r w
def Tryz.lays120_ren : Go.Shelf.Ren := ⟨fun | 120 => 130 | n => n, fun | 5 => 5 | 4 => 4 | n => n, fun | n => n⟩
theorem Tryz.lays120 : Go.Proofs.Lays.n120 Tryz.prog Tryz.lays120_ren := {
  mixed := by kernel_rfl
  f120 := Tryz.func130.trans (congrArg some (by kernel_rfl))
  t4 := Tryz.underlying4
  a4 := Tryz.isAgg4
  z4 := Tryz.sizeOf4
  v4 := Tryz.zeroValue4
  t5 := Tryz.underlying5
  a5 := Tryz.isAgg5
  z5 := Tryz.sizeOf5
  v5 := Tryz.zeroValue5 }
theorem Tryz.utf8_RuneStart (b : Int) (w : World) (h0 : 0 ≤ b) (h1 : b < 256) :
    Calls Tryz.prog 130 #[.int .u8 b] w fun e w' => e = .returned (.bool (Lib.runeStart b)) ∧ w' = w := Any.utf8_RuneStart Tryz.lays120 b w h0 h1
def Tryz.lays134_ren : Go.Shelf.Ren := ⟨fun | 134 => 59 | 129 => 89 | n => n, fun | 53 => 73 | 3 => 3 | 4 => 4 | 46 => 61 | 5 => 5 | 9 => 9 | n => n, fun | n => n⟩
theorem Tryz.lays134 : Go.Proofs.Lays.n134 Tryz.prog Tryz.lays134_ren := {
  mixed := by kernel_rfl
  f129 := Tryz.func89.trans (congrArg some (by kernel_rfl))
  f134 := Tryz.func59.trans (congrArg some (by kernel_rfl))
  t3 := Tryz.underlying3
  a3 := Tryz.isAgg3
  z3 := Tryz.sizeOf3
  v3 := Tryz.zeroValue3
  t4 := Tryz.underlying4
  a4 := Tryz.isAgg4
  z4 := Tryz.sizeOf4
  v4 := Tryz.zeroValue4
  t5 := Tryz.underlying5
  a5 := Tryz.isAgg5
  z5 := Tryz.sizeOf5
  v5 := Tryz.zeroValue5
  t9 := Tryz.underlying9
  a9 := Tryz.isAgg9
  z9 := Tryz.sizeOf9
  v9 := Tryz.zeroValue9
  t46 := Tryz.underlying61
  a46 := Tryz.isAgg61
  z46 := Tryz.sizeOf61
  v46 := Tryz.zeroValue61
  t53 := Tryz.underlying73
  a53 := Tryz.isAgg73
  z53 := Tryz.sizeOf73
  v53 := Tryz.zeroValue73 }
theorem Tryz.bits_LeadingZeros64 (x : Int) (w : World) (h0 : 0 ≤ x) (h1 : x ≤ 18446744073709551615) :
    Calls Tryz.prog 59 #[.int .u64 x] w fun e w' => e = .returned (.int .i64 (64 - (Lib.bitLen x.toNat : Int))) ∧ w' = w := Any.bits_LeadingZeros64 Tryz.lays134 x w h0 h1
def Tryz.lays137_ren : Go.Shelf.Ren := ⟨fun | 137 => 70 | 217 => 104 | 266 => 127 | n => n, fun | 9 => 9 | 5 => 5 | 3 => 3 | n => n, fun | n => n⟩
theorem Tryz.lays137 : Go.Proofs.Lays.n137 Tryz.prog Tryz.lays137_ren := {
  mixed := by kernel_rfl
  f137 := Tryz.func70.trans (congrArg some (by kernel_rfl))
  f217 := Tryz.func104.trans (congrArg some (by kernel_rfl))
  f266 := Tryz.func127.trans (congrArg some (by kernel_rfl))
  t3 := Tryz.underlying3
  a3 := Tryz.isAgg3
  z3 := Tryz.sizeOf3
  v3 := Tryz.zeroValue3
  t5 := Tryz.underlying5
  a5 := Tryz.isAgg5
  z5 := Tryz.sizeOf5
  v5 := Tryz.zeroValue5
  t9 := Tryz.underlying9
  a9 := Tryz.isAgg9
  z9 := Tryz.sizeOf9
  v9 := Tryz.zeroValue9 }
open Go.RowKit in
theorem Tryz.strings_IndexByte (s : ByteArray) (c : Int) (w : World) :
    Calls Tryz.prog 70 #[.string s, .int .u8 c] w fun e w' => e = .returned (.int .i64 (Lib.indexByte s.data.toList c.toNat.toUInt8)) ∧ w' = w := Any.strings_IndexByte Tryz.lays137 s c w
def Tryz.lays129_ren : Go.Shelf.Ren := ⟨fun | 129 => 89 | n => n, fun | 53 => 73 | 3 => 3 | 4 => 4 | 46 => 61 | 5 => 5 | 9 => 9 | n => n, fun | n => n⟩
theorem Tryz.lays129 : Go.Proofs.Lays.n129 Tryz.prog Tryz.lays129_ren := {
  mixed := by kernel_rfl
  f129 := Tryz.func89.trans (congrArg some (by kernel_rfl))
  t3 := Tryz.underlying3
  a3 := Tryz.isAgg3
  z3 := Tryz.sizeOf3
  v3 := Tryz.zeroValue3
  t4 := Tryz.underlying4
  a4 := Tryz.isAgg4
  z4 := Tryz.sizeOf4
  v4 := Tryz.zeroValue4
  t5 := Tryz.underlying5
  a5 := Tryz.isAgg5
  z5 := Tryz.sizeOf5
  v5 := Tryz.zeroValue5
  t9 := Tryz.underlying9
  a9 := Tryz.isAgg9
  z9 := Tryz.sizeOf9
  v9 := Tryz.zeroValue9
  t46 := Tryz.underlying61
  a46 := Tryz.isAgg61
  z46 := Tryz.sizeOf61
  v46 := Tryz.zeroValue61
  t53 := Tryz.underlying73
  a53 := Tryz.isAgg73
  z53 := Tryz.sizeOf73
  v53 := Tryz.zeroValue73 }
theorem Tryz.bits_Len64 (x : Int) (w : World) (h0 : 0 ≤ x) (h1 : x ≤ 18446744073709551615) :
    Calls Tryz.prog 89 #[.int .u64 x] w fun e w' => e = .returned (.int .i64 (Lib.bitLen x.toNat)) ∧ w' = w := Any.bits_Len64 Tryz.lays129 x w h0 h1
def Tryz.lays317_ren : Go.Shelf.Ren := ⟨fun | 317 => 117 | n => n, fun | 3 => 3 | 46 => 61 | n => n, fun | n => n⟩
theorem Tryz.lays317 : Go.Proofs.Lays.n317 Tryz.prog Tryz.lays317_ren := {
  mixed := by kernel_rfl
  f317 := Tryz.func117.trans (congrArg some (by kernel_rfl))
  t3 := Tryz.underlying3
  a3 := Tryz.isAgg3
  z3 := Tryz.sizeOf3
  v3 := Tryz.zeroValue3
  t46 := Tryz.underlying61
  a46 := Tryz.isAgg61
  z46 := Tryz.sizeOf61
  v46 := Tryz.zeroValue61 }
open Go.Lib in
theorem Tryz.internal_strconv_log10Pow2 (x : Nat) (h : x ≤ 64) (w : World) :
    Calls Tryz.prog 117 #[.int .i64 x] w fun e w' => e = .returned (.int .i64 (Lib.l10 x)) ∧ w' = w := Any.internal_strconv_log10Pow2 Tryz.lays317 x h w
def Tryz.lays318_ren : Go.Shelf.Ren := ⟨fun | 318 => 118 | n => n, fun | 3 => 3 | 4 => 4 | n => n, fun | n => n⟩
theorem Tryz.lays318 : Go.Proofs.Lays.n318 Tryz.prog Tryz.lays318_ren := {
  mixed := by kernel_rfl
  f318 := Tryz.func118.trans (congrArg some (by kernel_rfl))
  t3 := Tryz.underlying3
  a3 := Tryz.isAgg3
  z3 := Tryz.sizeOf3
  v3 := Tryz.zeroValue3
  t4 := Tryz.underlying4
  a4 := Tryz.isAgg4
  z4 := Tryz.sizeOf4
  v4 := Tryz.zeroValue4 }
open Go.Lib in
theorem Tryz.internal_strconv_bool2_int (b : Bool) (w : World) :
    Calls Tryz.prog 118 #[.bool b] w fun e w' => e = .returned (.int .i64 (if b then 1 else 0)) ∧ w' = w := Any.internal_strconv_bool2_int Tryz.lays318 b w
def Tryz.lays283_ren : Go.Shelf.Ren := ⟨fun | 283 => 90 | n => n, fun | 3 => 3 | 9 => 9 | 4 => 4 | n => n, fun | n => n⟩
theorem Tryz.lays283 : Go.Proofs.Lays.n283 Tryz.prog Tryz.lays283_ren := {
  mixed := by kernel_rfl
  f283 := Tryz.func90.trans (congrArg some (by kernel_rfl))
  t3 := Tryz.underlying3
  a3 := Tryz.isAgg3
  z3 := Tryz.sizeOf3
  v3 := Tryz.zeroValue3
  t4 := Tryz.underlying4
  a4 := Tryz.isAgg4
  z4 := Tryz.sizeOf4
  v4 := Tryz.zeroValue4
  t9 := Tryz.underlying9
  a9 := Tryz.isAgg9
  z9 := Tryz.sizeOf9
  v9 := Tryz.zeroValue9 }
open Go.Lib in
theorem Tryz.internal_strconv_small (i : Nat) (h : i < 100) (w : World) :
    Calls Tryz.prog 90 #[.int .i64 i] w fun e w' => e = .returned (.string ⟨(Lib.decDigits i).toArray⟩) ∧ w' = w := Any.internal_strconv_small Tryz.lays283 i h w
def Tryz.laysM284_ren : Go.Shelf.Ren := ⟨fun | 284 => 91 | 129 => 89 | 317 => 117 | 318 => 118 | n => n, fun | 53 => 73 | 3 => 3 | 212 => 141 | 0 => 0 | 4 => 4 | 46 => 61 | 5 => 5 | 9 => 9 | n => n, fun | 17 => 3 | n => n⟩
theorem Tryz.laysM284 : Go.Proofs.LaysM.n284 Tryz.prog Tryz.laysM284_ren := {
  mixed := by kernel_rfl
  f129 := Tryz.func89.trans (congrArg some (by kernel_rfl))
  f284 := Tryz.func91.trans (congrArg some (by kernel_rfl))
  f317 := Tryz.func117.trans (congrArg some (by kernel_rfl))
  f318 := Tryz.func118.trans (congrArg some (by kernel_rfl))
  t0 := Tryz.underlying0
  a0 := Tryz.isAgg0
  z0 := Tryz.sizeOf0
  v0 := Tryz.zeroValue0
  t3 := Tryz.underlying3
  a3 := Tryz.isAgg3
  z3 := Tryz.sizeOf3
  v3 := Tryz.zeroValue3
  t4 := Tryz.underlying4
  a4 := Tryz.isAgg4
  z4 := Tryz.sizeOf4
  v4 := Tryz.zeroValue4
  t5 := Tryz.underlying5
  a5 := Tryz.isAgg5
  z5 := Tryz.sizeOf5
  v5 := Tryz.zeroValue5
  t9 := Tryz.underlying9
  a9 := Tryz.isAgg9
  z9 := Tryz.sizeOf9
  v9 := Tryz.zeroValue9
  t46 := Tryz.underlying61
  a46 := Tryz.isAgg61
  z46 := Tryz.sizeOf61
  v46 := Tryz.zeroValue61
  t53 := Tryz.underlying73
  a53 := Tryz.isAgg73
  z53 := Tryz.sizeOf73
  v53 := Tryz.zeroValue73
  t212 := Tryz.underlying141
  a212 := Tryz.isAgg141
  z212 := Tryz.sizeOf141
  v212 := Tryz.zeroValue141
  g17 := by kernel_rfl
  i0 := by kernel_rfl
  i3 := by kernel_rfl
  i4 := by kernel_rfl
  i5 := by kernel_rfl
  i9 := by kernel_rfl
  i46 := by kernel_rfl
  i53 := by kernel_rfl
  i212 := by kernel_rfl
  m17 := by kernel_rfl }
open Go.Lib in
theorem Tryz.internal_strconv_numDigits (u : Nat) (h1 : 1 ≤ u) (h2 : u < 18446744073709551616) (w : World) (htab : Lib.TabIs Tryz.prog w "internal/strconv.uint64pow10" .u64 Lib.pow10Tab) :
    Calls Tryz.prog 91 #[.int .u64 u] w fun e w' => e = .returned (.int .i64 (Lib.nDigits u)) ∧ w' = w := Any.internal_strconv_numDigits Tryz.laysM284 u h1 h2 w htab
def Tryz.lays285_ren : Go.Shelf.Ren := ⟨fun | 285 => 92 | n => n, fun | 37 => 52 | 53 => 73 | 3 => 3 | 4 => 4 | 51 => 142 | 9 => 9 | 5 => 5 | 0 => 0 | n => n, fun | n => n⟩
theorem Tryz.lays285 : Go.Proofs.Lays.n285 Tryz.prog Tryz.lays285_ren := {
  mixed := by kernel_rfl
  f285 := Tryz.func92.trans (congrArg some (by kernel_rfl))
  t0 := Tryz.underlying0
  a0 := Tryz.isAgg0
  z0 := Tryz.sizeOf0
  v0 := Tryz.zeroValue0
  t3 := Tryz.underlying3
  a3 := Tryz.isAgg3
  z3 := Tryz.sizeOf3
  v3 := Tryz.zeroValue3
  t4 := Tryz.underlying4
  a4 := Tryz.isAgg4
  z4 := Tryz.sizeOf4
  v4 := Tryz.zeroValue4
  t5 := Tryz.underlying5
  a5 := Tryz.isAgg5
  z5 := Tryz.sizeOf5
  v5 := Tryz.zeroValue5
  t9 := Tryz.underlying9
  a9 := Tryz.isAgg9
  z9 := Tryz.sizeOf9
  v9 := Tryz.zeroValue9
  t37 := Tryz.underlying52
  a37 := Tryz.isAgg52
  z37 := Tryz.sizeOf52
  v37 := Tryz.zeroValue52
  t51 := Tryz.underlying142
  a51 := Tryz.isAgg142
  z51 := Tryz.sizeOf142
  v51 := Tryz.zeroValue142
  t53 := Tryz.underlying73
  a53 := Tryz.isAgg73
  z53 := Tryz.sizeOf73
  v53 := Tryz.zeroValue73 }
open Go.RowKit Go.Sort Go.Lib in
theorem Tryz.internal_strconv_formatBase10 (blk off cap : Nat) (u : Nat) (d : Array UInt8) (w : World) (hH : Holds (fun (b : UInt8) => Value.int .u8 (b.toNat : Int)) w blk off d) (hu : u < 10 ^ d.size) (hu64 : u < 18446744073709551616) (hsz : d.size < 4611686018427387904) :
    Calls Tryz.prog 92 #[.slice (some ⟨blk, off, none⟩) d.size cap, .int .u64 u] w fun e w' =>
      e = .returned (.tuple #[]) ∧ ∃ (n v' : Nat) (dk : Array UInt8), w' = (putRow (fun (b : UInt8) => Value.int .u8 (b.toNat : Int)) w blk off dk).drewN n ∧ FmtInv d.size u 0 v' dk := Any.internal_strconv_formatBase10 Tryz.lays285 blk off cap u d w hH hu hu64 hsz
def Tryz.laysM246_ren : Go.Shelf.Ren := ⟨fun | 246 => 61 | 283 => 90 | 284 => 91 | 285 => 92 | 286 => 93 | 129 => 89 | 317 => 117 | 318 => 118 | 319 => 119 | 320 => 120 | 337 => 131 | 338 => 132 | n => n, fun | 2 => 2 | 3 => 3 | 9 => 9 | 4 => 4 | 171 => 122 | 0 => 0 | 53 => 73 | 37 => 52 | 5 => 5 | 173 => 124 | 212 => 141 | 51 => 142 | 20 => 20 | 213 => 143 | 46 => 61 | 232 => 156 | 233 => 157 | n => n, fun | 17 => 3 | 18 => 7 | 19 => 8 | n => n⟩
theorem Tryz.laysM246 : Go.Proofs.LaysM.n246 Tryz.prog Tryz.laysM246_ren := {
  mixed := by kernel_rfl
  f129 := Tryz.func89.trans (congrArg some (by kernel_rfl))
  f246 := Tryz.func61.trans (congrArg some (by kernel_rfl))
  f283 := Tryz.func90.trans (congrArg some (by kernel_rfl))
  f284 := Tryz.func91.trans (congrArg some (by kernel_rfl))
  f285 := Tryz.func92.trans (congrArg some (by kernel_rfl))
  f286 := Tryz.func93.trans (congrArg some (by kernel_rfl))
  f317 := Tryz.func117.trans (congrArg some (by kernel_rfl))
  f318 := Tryz.func118.trans (congrArg some (by kernel_rfl))
  f319 := Tryz.func119.trans (congrArg some (by kernel_rfl))
  f320 := Tryz.func120.trans (congrArg some (by kernel_rfl))
  f337 := Tryz.func131.trans (congrArg some (by kernel_rfl))
  f338 := Tryz.func132.trans (congrArg some (by kernel_rfl))
  t0 := Tryz.underlying0
  a0 := Tryz.isAgg0
  z0 := Tryz.sizeOf0
  v0 := Tryz.zeroValue0
  t2 := Tryz.underlying2
  a2 := Tryz.isAgg2
  z2 := Tryz.sizeOf2
  v2 := Tryz.zeroValue2
  t3 := Tryz.underlying3
  a3 := Tryz.isAgg3
  z3 := Tryz.sizeOf3
  v3 := Tryz.zeroValue3
  t4 := Tryz.underlying4
  a4 := Tryz.isAgg4
  z4 := Tryz.sizeOf4
  v4 := Tryz.zeroValue4
  t5 := Tryz.underlying5
  a5 := Tryz.isAgg5
  z5 := Tryz.sizeOf5
  v5 := Tryz.zeroValue5
  t9 := Tryz.underlying9
  a9 := Tryz.isAgg9
  z9 := Tryz.sizeOf9
  v9 := Tryz.zeroValue9
  t20 := Tryz.underlying20
  a20 := Tryz.isAgg20
  z20 := Tryz.sizeOf20
  v20 := Tryz.zeroValue20
  t37 := Tryz.underlying52
  a37 := Tryz.isAgg52
  z37 := Tryz.sizeOf52
  v37 := Tryz.zeroValue52
  t46 := Tryz.underlying61
  a46 := Tryz.isAgg61
  z46 := Tryz.sizeOf61
  v46 := Tryz.zeroValue61
  t51 := Tryz.underlying142
  a51 := Tryz.isAgg142
  z51 := Tryz.sizeOf142
  v51 := Tryz.zeroValue142
  t53 := Tryz.underlying73
  a53 := Tryz.isAgg73
  z53 := Tryz.sizeOf73
  v53 := Tryz.zeroValue73
  t171 := Tryz.underlying122
  a171 := Tryz.isAgg122
  z171 := Tryz.sizeOf122
  v171 := Tryz.zeroValue122
  t173 := Tryz.underlying124
  a173 := Tryz.isAgg124
  z173 := Tryz.sizeOf124
  v173 := Tryz.zeroValue124
  t212 := Tryz.underlying141
  a212 := Tryz.isAgg141
  z212 := Tryz.sizeOf141
  v212 := Tryz.zeroValue141
  t213 := Tryz.underlying143
  a213 := Tryz.isAgg143
  z213 := Tryz.sizeOf143
  t232 := Tryz.underlying156
  a232 := Tryz.isAgg156
  z232 := Tryz.sizeOf156
  v232 := Tryz.zeroValue156
  t233 := Tryz.underlying157
  a233 := Tryz.isAgg157
  z233 := Tryz.sizeOf157
  v233 := Tryz.zeroValue157
  g17 := by kernel_rfl
  g18 := by kernel_rfl
  g19 := by kernel_rfl
  i0 := by kernel_rfl
  i2 := by kernel_rfl
  i3 := by kernel_rfl
  i4 := by kernel_rfl
  i5 := by kernel_rfl
  i9 := by kernel_rfl
  i20 := by kernel_rfl
  i37 := by kernel_rfl
  i46 := by kernel_rfl
  i51 := by kernel_rfl
  i53 := by kernel_rfl
  i171 := by kernel_rfl
  i173 := by kernel_rfl
  i212 := by kernel_rfl
  i232 := by kernel_rfl
  i233 := by kernel_rfl
  m17 := by kernel_rfl
  m18 := by kernel_rfl
  m19 := by kernel_rfl }
open Go.RowKit Go.Sort Go.Lib in
theorem Tryz.internal_strconv_FormatInt_10 (n : Int) (h0 : -9223372036854775808 ≤ n) (h1 : n ≤ 9223372036854775807) (w : World) (htab : Lib.TabIs Tryz.prog w "internal/strconv.uint64pow10" .u64 Lib.pow10Tab) :
    Calls Tryz.prog 61 #[.int .i64 n, .int .i64 10] w fun e w' => e = .returned (.string ⟨(Lib.itoa n).toArray⟩) ∧ ∃ k os, w' = grow (w.drewN k) os := Any.internal_strconv_FormatInt_10 Tryz.laysM246 n h0 h1 w htab
def Tryz.lays246_ren : Go.Shelf.Ren := ⟨fun | 246 => 61 | 283 => 90 | 284 => 91 | 285 => 92 | 286 => 93 | 129 => 89 | 317 => 117 | 318 => 118 | 319 => 119 | 320 => 120 | 337 => 131 | 338 => 132 | n => n, fun | 2 => 2 | 3 => 3 | 9 => 9 | 4 => 4 | 171 => 122 | 0 => 0 | 53 => 73 | 37 => 52 | 5 => 5 | 173 => 124 | 212 => 141 | 51 => 142 | 20 => 20 | 213 => 143 | 46 => 61 | 232 => 156 | 233 => 157 | n => n, fun | 17 => 3 | 18 => 7 | 19 => 8 | n => n⟩
theorem Tryz.lays246 : Go.Proofs.Lays.n246 Tryz.prog Tryz.lays246_ren := {
  mixed := by kernel_rfl
  f129 := Tryz.func89.trans (congrArg some (by kernel_rfl))
  f246 := Tryz.func61.trans (congrArg some (by kernel_rfl))
  f283 := Tryz.func90.trans (congrArg some (by kernel_rfl))
  f284 := Tryz.func91.trans (congrArg some (by kernel_rfl))
  f285 := Tryz.func92.trans (congrArg some (by kernel_rfl))
  f286 := Tryz.func93.trans (congrArg some (by kernel_rfl))
  f317 := Tryz.func117.trans (congrArg some (by kernel_rfl))
  f318 := Tryz.func118.trans (congrArg some (by kernel_rfl))
  f319 := Tryz.func119.trans (congrArg some (by kernel_rfl))
  f320 := Tryz.func120.trans (congrArg some (by kernel_rfl))
  f337 := Tryz.func131.trans (congrArg some (by kernel_rfl))
  f338 := Tryz.func132.trans (congrArg some (by kernel_rfl))
  t0 := Tryz.underlying0
  a0 := Tryz.isAgg0
  z0 := Tryz.sizeOf0
  v0 := Tryz.zeroValue0
  t2 := Tryz.underlying2
  a2 := Tryz.isAgg2
  z2 := Tryz.sizeOf2
  v2 := Tryz.zeroValue2
  t3 := Tryz.underlying3
  a3 := Tryz.isAgg3
  z3 := Tryz.sizeOf3
  v3 := Tryz.zeroValue3
  t4 := Tryz.underlying4
  a4 := Tryz.isAgg4
  z4 := Tryz.sizeOf4
  v4 := Tryz.zeroValue4
  t5 := Tryz.underlying5
  a5 := Tryz.isAgg5
  z5 := Tryz.sizeOf5
  v5 := Tryz.zeroValue5
  t9 := Tryz.underlying9
  a9 := Tryz.isAgg9
  z9 := Tryz.sizeOf9
  v9 := Tryz.zeroValue9
  t20 := Tryz.underlying20
  a20 := Tryz.isAgg20
  z20 := Tryz.sizeOf20
  v20 := Tryz.zeroValue20
  t37 := Tryz.underlying52
  a37 := Tryz.isAgg52
  z37 := Tryz.sizeOf52
  v37 := Tryz.zeroValue52
  t46 := Tryz.underlying61
  a46 := Tryz.isAgg61
  z46 := Tryz.sizeOf61
  v46 := Tryz.zeroValue61
  t51 := Tryz.underlying142
  a51 := Tryz.isAgg142
  z51 := Tryz.sizeOf142
  v51 := Tryz.zeroValue142
  t53 := Tryz.underlying73
  a53 := Tryz.isAgg73
  z53 := Tryz.sizeOf73
  v53 := Tryz.zeroValue73
  t171 := Tryz.underlying122
  a171 := Tryz.isAgg122
  z171 := Tryz.sizeOf122
  v171 := Tryz.zeroValue122
  t173 := Tryz.underlying124
  a173 := Tryz.isAgg124
  z173 := Tryz.sizeOf124
  v173 := Tryz.zeroValue124
  t212 := Tryz.underlying141
  a212 := Tryz.isAgg141
  z212 := Tryz.sizeOf141
  v212 := Tryz.zeroValue141
  t213 := Tryz.underlying143
  a213 := Tryz.isAgg143
  z213 := Tryz.sizeOf143
  t232 := Tryz.underlying156
  a232 := Tryz.isAgg156
  z232 := Tryz.sizeOf156
  v232 := Tryz.zeroValue156
  t233 := Tryz.underlying157
  a233 := Tryz.isAgg157
  z233 := Tryz.sizeOf157
  v233 := Tryz.zeroValue157
  g17 := by kernel_rfl
  g18 := by kernel_rfl
  g19 := by kernel_rfl }
open Go.RowKit Go.Sort Go.Lib in
theorem Tryz.internal_strconv_FormatInt_10_small (i : Nat) (hi : i < 100) (w : World) :
    Calls Tryz.prog 61 #[.int .i64 i, .int .i64 10] w fun e w' => e = .returned (.string ⟨(Lib.decDigits i).toArray⟩) ∧ w' = w := Any.internal_strconv_FormatInt_10_small Tryz.lays246 i hi w
def Tryz.laysM243_ren : Go.Shelf.Ren := ⟨fun | 243 => 48 | 246 => 61 | 283 => 90 | 284 => 91 | 285 => 92 | 286 => 93 | 129 => 89 | 317 => 117 | 318 => 118 | 319 => 119 | 320 => 120 | 337 => 131 | 338 => 132 | n => n, fun | 3 => 3 | 9 => 9 | 2 => 2 | 4 => 4 | 171 => 122 | 0 => 0 | 53 => 73 | 37 => 52 | 5 => 5 | 173 => 124 | 212 => 141 | 51 => 142 | 20 => 20 | 213 => 143 | 46 => 61 | 232 => 156 | 233 => 157 | n => n, fun | 17 => 3 | 18 => 7 | 19 => 8 | n => n⟩
theorem Tryz.laysM243 : Go.Proofs.LaysM.n243 Tryz.prog Tryz.laysM243_ren := {
  mixed := by kernel_rfl
  f129 := Tryz.func89.trans (congrArg some (by kernel_rfl))
  f243 := Tryz.func48.trans (congrArg some (by kernel_rfl))
  f246 := Tryz.func61.trans (congrArg some (by kernel_rfl))
  f283 := Tryz.func90.trans (congrArg some (by kernel_rfl))
  f284 := Tryz.func91.trans (congrArg some (by kernel_rfl))
  f285 := Tryz.func92.trans (congrArg some (by kernel_rfl))
  f286 := Tryz.func93.trans (congrArg some (by kernel_rfl))
  f317 := Tryz.func117.trans (congrArg some (by kernel_rfl))
  f318 := Tryz.func118.trans (congrArg some (by kernel_rfl))
  f319 := Tryz.func119.trans (congrArg some (by kernel_rfl))
  f320 := Tryz.func120.trans (congrArg some (by kernel_rfl))
  f337 := Tryz.func131.trans (congrArg some (by kernel_rfl))
  f338 := Tryz.func132.trans (congrArg some (by kernel_rfl))
  t0 := Tryz.underlying0
  a0 := Tryz.isAgg0
  z0 := Tryz.sizeOf0
  v0 := Tryz.zeroValue0
  t2 := Tryz.underlying2
  a2 := Tryz.isAgg2
  z2 := Tryz.sizeOf2
  v2 := Tryz.zeroValue2
  t3 := Tryz.underlying3
  a3 := Tryz.isAgg3
  z3 := Tryz.sizeOf3
  v3 := Tryz.zeroValue3
  t4 := Tryz.underlying4
  a4 := Tryz.isAgg4
  z4 := Tryz.sizeOf4
  v4 := Tryz.zeroValue4
  t5 := Tryz.underlying5
  a5 := Tryz.isAgg5
  z5 := Tryz.sizeOf5
  v5 := Tryz.zeroValue5
  t9 := Tryz.underlying9
  a9 := Tryz.isAgg9
  z9 := Tryz.sizeOf9
  v9 := Tryz.zeroValue9
  t20 := Tryz.underlying20
  a20 := Tryz.isAgg20
  z20 := Tryz.sizeOf20
  v20 := Tryz.zeroValue20
  t37 := Tryz.underlying52
  a37 := Tryz.isAgg52
  z37 := Tryz.sizeOf52
  v37 := Tryz.zeroValue52
  t46 := Tryz.underlying61
  a46 := Tryz.isAgg61
  z46 := Tryz.sizeOf61
  v46 := Tryz.zeroValue61
  t51 := Tryz.underlying142
  a51 := Tryz.isAgg142
  z51 := Tryz.sizeOf142
  v51 := Tryz.zeroValue142
  t53 := Tryz.underlying73
  a53 := Tryz.isAgg73
  z53 := Tryz.sizeOf73
  v53 := Tryz.zeroValue73
  t171 := Tryz.underlying122
  a171 := Tryz.isAgg122
  z171 := Tryz.sizeOf122
  v171 := Tryz.zeroValue122
  t173 := Tryz.underlying124
  a173 := Tryz.isAgg124
  z173 := Tryz.sizeOf124
  v173 := Tryz.zeroValue124
  t212 := Tryz.underlying141
  a212 := Tryz.isAgg141
  z212 := Tryz.sizeOf141
  v212 := Tryz.zeroValue141
  t213 := Tryz.underlying143
  a213 := Tryz.isAgg143
  z213 := Tryz.sizeOf143
  t232 := Tryz.underlying156
  a232 := Tryz.isAgg156
  z232 := Tryz.sizeOf156
  v232 := Tryz.zeroValue156
  t233 := Tryz.underlying157
  a233 := Tryz.isAgg157
  z233 := Tryz.sizeOf157
  v233 := Tryz.zeroValue157
  g17 := by kernel_rfl
  g18 := by kernel_rfl
  g19 := by kernel_rfl
  i0 := by kernel_rfl
  i2 := by kernel_rfl
  i3 := by kernel_rfl
  i4 := by kernel_rfl
  i5 := by kernel_rfl
  i9 := by kernel_rfl
  i20 := by kernel_rfl
  i37 := by kernel_rfl
  i46 := by kernel_rfl
  i51 := by kernel_rfl
  i53 := by kernel_rfl
  i171 := by kernel_rfl
  i173 := by kernel_rfl
  i212 := by kernel_rfl
  i232 := by kernel_rfl
  i233 := by kernel_rfl
  m17 := by kernel_rfl
  m18 := by kernel_rfl
  m19 := by kernel_rfl }
open Go.RowKit Go.Sort Go.Lib in
theorem Tryz.internal_strconv_Itoa (n : Int) (h0 : -9223372036854775808 ≤ n) (h1 : n ≤ 9223372036854775807) (w : World) (htab : Lib.TabIs Tryz.prog w "internal/strconv.uint64pow10" .u64 Lib.pow10Tab) :
    Calls Tryz.prog 48 #[.int .i64 n] w fun e w' => e = .returned (.string ⟨(Lib.itoa n).toArray⟩) ∧ ∃ k os, w' = grow (w.drewN k) os := Any.internal_strconv_Itoa Tryz.laysM243 n h0 h1 w htab
def Tryz.lays243_ren : Go.Shelf.Ren := ⟨fun | 243 => 48 | 246 => 61 | 283 => 90 | 284 => 91 | 285 => 92 | 286 => 93 | 129 => 89 | 317 => 117 | 318 => 118 | 319 => 119 | 320 => 120 | 337 => 131 | 338 => 132 | n => n, fun | 3 => 3 | 9 => 9 | 2 => 2 | 4 => 4 | 171 => 122 | 0 => 0 | 53 => 73 | 37 => 52 | 5 => 5 | 173 => 124 | 212 => 141 | 51 => 142 | 20 => 20 | 213 => 143 | 46 => 61 | 232 => 156 | 233 => 157 | n => n, fun | 17 => 3 | 18 => 7 | 19 => 8 | n => n⟩
theorem Tryz.lays243 : Go.Proofs.Lays.n243 Tryz.prog Tryz.lays243_ren := {
  mixed := by kernel_rfl
  f129 := Tryz.func89.trans (congrArg some (by kernel_rfl))
  f243 := Tryz.func48.trans (congrArg some (by kernel_rfl))
  f246 := Tryz.func61.trans (congrArg some (by kernel_rfl))
  f283 := Tryz.func90.trans (congrArg some (by kernel_rfl))
  f284 := Tryz.func91.trans (congrArg some (by kernel_rfl))
  f285 := Tryz.func92.trans (congrArg some (by kernel_rfl))
  f286 := Tryz.func93.trans (congrArg some (by kernel_rfl))
  f317 := Tryz.func117.trans (congrArg some (by kernel_rfl))
  f318 := Tryz.func118.trans (congrArg some (by kernel_rfl))
  f319 := Tryz.func119.trans (congrArg some (by kernel_rfl))
  f320 := Tryz.func120.trans (congrArg some (by kernel_rfl))
  f337 := Tryz.func131.trans (congrArg some (by kernel_rfl))
  f338 := Tryz.func132.trans (congrArg some (by kernel_rfl))
  t0 := Tryz.underlying0
  a0 := Tryz.isAgg0
  z0 := Tryz.sizeOf0
  v0 := Tryz.zeroValue0
  t2 := Tryz.underlying2
  a2 := Tryz.isAgg2
  z2 := Tryz.sizeOf2
  v2 := Tryz.zeroValue2
  t3 := Tryz.underlying3
  a3 := Tryz.isAgg3
  z3 := Tryz.sizeOf3
  v3 := Tryz.zeroValue3
  t4 := Tryz.underlying4
  a4 := Tryz.isAgg4
  z4 := Tryz.sizeOf4
  v4 := Tryz.zeroValue4
  t5 := Tryz.underlying5
  a5 := Tryz.isAgg5
  z5 := Tryz.sizeOf5
  v5 := Tryz.zeroValue5
  t9 := Tryz.underlying9
  a9 := Tryz.isAgg9
  z9 := Tryz.sizeOf9
  v9 := Tryz.zeroValue9
  t20 := Tryz.underlying20
  a20 := Tryz.isAgg20
  z20 := Tryz.sizeOf20
  v20 := Tryz.zeroValue20
  t37 := Tryz.underlying52
  a37 := Tryz.isAgg52
  z37 := Tryz.sizeOf52
  v37 := Tryz.zeroValue52
  t46 := Tryz.underlying61
  a46 := Tryz.isAgg61
  z46 := Tryz.sizeOf61
  v46 := Tryz.zeroValue61
  t51 := Tryz.underlying142
  a51 := Tryz.isAgg142
  z51 := Tryz.sizeOf142
  v51 := Tryz.zeroValue142
  t53 := Tryz.underlying73
  a53 := Tryz.isAgg73
  z53 := Tryz.sizeOf73
  v53 := Tryz.zeroValue73
  t171 := Tryz.underlying122
  a171 := Tryz.isAgg122
  z171 := Tryz.sizeOf122
  v171 := Tryz.zeroValue122
  t173 := Tryz.underlying124
  a173 := Tryz.isAgg124
  z173 := Tryz.sizeOf124
  v173 := Tryz.zeroValue124
  t212 := Tryz.underlying141
  a212 := Tryz.isAgg141
  z212 := Tryz.sizeOf141
  v212 := Tryz.zeroValue141
  t213 := Tryz.underlying143
  a213 := Tryz.isAgg143
  z213 := Tryz.sizeOf143
  t232 := Tryz.underlying156
  a232 := Tryz.isAgg156
  z232 := Tryz.sizeOf156
  v232 := Tryz.zeroValue156
  t233 := Tryz.underlying157
  a233 := Tryz.isAgg157
  z233 := Tryz.sizeOf157
  v233 := Tryz.zeroValue157
  g17 := by kernel_rfl
  g18 := by kernel_rfl
  g19 := by kernel_rfl }
open Go.RowKit Go.Sort Go.Lib in
theorem Tryz.internal_strconv_Itoa_small (i : Nat) (hi : i < 100) (w : World) :
    Calls Tryz.prog 48 #[.int .i64 i] w fun e w' => e = .returned (.string ⟨(Lib.decDigits i).toArray⟩) ∧ w' = w := Any.internal_strconv_Itoa_small Tryz.lays243 i hi w
def Tryz.laysM171_ren : Go.Shelf.Ren := ⟨fun | 171 => 31 | 243 => 48 | 246 => 61 | 283 => 90 | 284 => 91 | 285 => 92 | 286 => 93 | 129 => 89 | 317 => 117 | 318 => 118 | 319 => 119 | 320 => 120 | 337 => 131 | 338 => 132 | n => n, fun | 3 => 3 | 9 => 9 | 2 => 2 | 4 => 4 | 171 => 122 | 0 => 0 | 53 => 73 | 37 => 52 | 5 => 5 | 173 => 124 | 212 => 141 | 51 => 142 | 20 => 20 | 213 => 143 | 46 => 61 | 232 => 156 | 233 => 157 | n => n, fun | 17 => 3 | 18 => 7 | 19 => 8 | n => n⟩
theorem Tryz.laysM171 : Go.Proofs.LaysM.n171 Tryz.prog Tryz.laysM171_ren := {
  mixed := by kernel_rfl
  f129 := Tryz.func89.trans (congrArg some (by kernel_rfl))
  f171 := Tryz.func31.trans (congrArg some (by kernel_rfl))
  f243 := Tryz.func48.trans (congrArg some (by kernel_rfl))
  f246 := Tryz.func61.trans (congrArg some (by kernel_rfl))
  f283 := Tryz.func90.trans (congrArg some (by kernel_rfl))
  f284 := Tryz.func91.trans (congrArg some (by kernel_rfl))
  f285 := Tryz.func92.trans (congrArg some (by kernel_rfl))
  f286 := Tryz.func93.trans (congrArg some (by kernel_rfl))
  f317 := Tryz.func117.trans (congrArg some (by kernel_rfl))
  f318 := Tryz.func118.trans (congrArg some (by kernel_rfl))
  f319 := Tryz.func119.trans (congrArg some (by kernel_rfl))
  f320 := Tryz.func120.trans (congrArg some (by kernel_rfl))
  f337 := Tryz.func131.trans (congrArg some (by kernel_rfl))
  f338 := Tryz.func132.trans (congrArg some (by kernel_rfl))
  t0 := Tryz.underlying0
  a0 := Tryz.isAgg0
  z0 := Tryz.sizeOf0
  v0 := Tryz.zeroValue0
  t2 := Tryz.underlying2
  a2 := Tryz.isAgg2
  z2 := Tryz.sizeOf2
  v2 := Tryz.zeroValue2
  t3 := Tryz.underlying3
  a3 := Tryz.isAgg3
  z3 := Tryz.sizeOf3
  v3 := Tryz.zeroValue3
  t4 := Tryz.underlying4
  a4 := Tryz.isAgg4
  z4 := Tryz.sizeOf4
  v4 := Tryz.zeroValue4
  t5 := Tryz.underlying5
  a5 := Tryz.isAgg5
  z5 := Tryz.sizeOf5
  v5 := Tryz.zeroValue5
  t9 := Tryz.underlying9
  a9 := Tryz.isAgg9
  z9 := Tryz.sizeOf9
  v9 := Tryz.zeroValue9
  t20 := Tryz.underlying20
  a20 := Tryz.isAgg20
  z20 := Tryz.sizeOf20
  v20 := Tryz.zeroValue20
  t37 := Tryz.underlying52
  a37 := Tryz.isAgg52
  z37 := Tryz.sizeOf52
  v37 := Tryz.zeroValue52
  t46 := Tryz.underlying61
  a46 := Tryz.isAgg61
  z46 := Tryz.sizeOf61
  v46 := Tryz.zeroValue61
  t51 := Tryz.underlying142
  a51 := Tryz.isAgg142
  z51 := Tryz.sizeOf142
  v51 := Tryz.zeroValue142
  t53 := Tryz.underlying73
  a53 := Tryz.isAgg73
  z53 := Tryz.sizeOf73
  v53 := Tryz.zeroValue73
  t171 := Tryz.underlying122
  a171 := Tryz.isAgg122
  z171 := Tryz.sizeOf122
  v171 := Tryz.zeroValue122
  t173 := Tryz.underlying124
  a173 := Tryz.isAgg124
  z173 := Tryz.sizeOf124
  v173 := Tryz.zeroValue124
  t212 := Tryz.underlying141
  a212 := Tryz.isAgg141
  z212 := Tryz.sizeOf141
  v212 := Tryz.zeroValue141
  t213 := Tryz.underlying143
  a213 := Tryz.isAgg143
  z213 := Tryz.sizeOf143
  t232 := Tryz.underlying156
  a232 := Tryz.isAgg156
  z232 := Tryz.sizeOf156
  v232 := Tryz.zeroValue156
  t233 := Tryz.underlying157
  a233 := Tryz.isAgg157
  z233 := Tryz.sizeOf157
  v233 := Tryz.zeroValue157
  g17 := by kernel_rfl
  g18 := by kernel_rfl
  g19 := by kernel_rfl
  i0 := by kernel_rfl
  i2 := by kernel_rfl
  i3 := by kernel_rfl
  i4 := by kernel_rfl
  i5 := by kernel_rfl
  i9 := by kernel_rfl
  i20 := by kernel_rfl
  i37 := by kernel_rfl
  i46 := by kernel_rfl
  i51 := by kernel_rfl
  i53 := by kernel_rfl
  i171 := by kernel_rfl
  i173 := by kernel_rfl
  i212 := by kernel_rfl
  i232 := by kernel_rfl
  i233 := by kernel_rfl
  m17 := by kernel_rfl
  m18 := by kernel_rfl
  m19 := by kernel_rfl }
open Go.RowKit Go.Sort Go.Lib in
theorem Tryz.strconv_Itoa (n : Int) (h0 : -9223372036854775808 ≤ n) (h1 : n ≤ 9223372036854775807) (w : World) (htab : Lib.TabIs Tryz.prog w "internal/strconv.uint64pow10" .u64 Lib.pow10Tab) :
    Calls Tryz.prog 31 #[.int .i64 n] w fun e w' => e = .returned (.string ⟨(Lib.itoa n).toArray⟩) ∧ ∃ k os, w' = grow (w.drewN k) os := Any.strconv_Itoa Tryz.laysM171 n h0 h1 w htab
def Tryz.lays171_ren : Go.Shelf.Ren := ⟨fun | 171 => 31 | 243 => 48 | 246 => 61 | 283 => 90 | 284 => 91 | 285 => 92 | 286 => 93 | 129 => 89 | 317 => 117 | 318 => 118 | 319 => 119 | 320 => 120 | 337 => 131 | 338 => 132 | n => n, fun | 3 => 3 | 9 => 9 | 2 => 2 | 4 => 4 | 171 => 122 | 0 => 0 | 53 => 73 | 37 => 52 | 5 => 5 | 173 => 124 | 212 => 141 | 51 => 142 | 20 => 20 | 213 => 143 | 46 => 61 | 232 => 156 | 233 => 157 | n => n, fun | 17 => 3 | 18 => 7 | 19 => 8 | n => n⟩
theorem Tryz.lays171 : Go.Proofs.Lays.n171 Tryz.prog Tryz.lays171_ren := {
  mixed := by kernel_rfl
  f129 := Tryz.func89.trans (congrArg some (by kernel_rfl))
  f171 := Tryz.func31.trans (congrArg some (by kernel_rfl))
  f243 := Tryz.func48.trans (congrArg some (by kernel_rfl))
  f246 := Tryz.func61.trans (congrArg some (by kernel_rfl))
  f283 := Tryz.func90.trans (congrArg some (by kernel_rfl))
  f284 := Tryz.func91.trans (congrArg some (by kernel_rfl))
  f285 := Tryz.func92.trans (congrArg some (by kernel_rfl))
  f286 := Tryz.func93.trans (congrArg some (by kernel_rfl))
  f317 := Tryz.func117.trans (congrArg some (by kernel_rfl))
  f318 := Tryz.func118.trans (congrArg some (by kernel_rfl))
  f319 := Tryz.func119.trans (congrArg some (by kernel_rfl))
  f320 := Tryz.func120.trans (congrArg some (by kernel_rfl))
  f337 := Tryz.func131.trans (congrArg some (by kernel_rfl))
  f338 := Tryz.func132.trans (congrArg some (by kernel_rfl))
  t0 := Tryz.underlying0
  a0 := Tryz.isAgg0
  z0 := Tryz.sizeOf0
  v0 := Tryz.zeroValue0
  t2 := Tryz.underlying2
  a2 := Tryz.isAgg2
  z2 := Tryz.sizeOf2
  v2 := Tryz.zeroValue2
  t3 := Tryz.underlying3
  a3 := Tryz.isAgg3
  z3 := Tryz.sizeOf3
  v3 := Tryz.zeroValue3
  t4 := Tryz.underlying4
  a4 := Tryz.isAgg4
  z4 := Tryz.sizeOf4
  v4 := Tryz.zeroValue4
  t5 := Tryz.underlying5
  a5 := Tryz.isAgg5
  z5 := Tryz.sizeOf5
  v5 := Tryz.zeroValue5
  t9 := Tryz.underlying9
  a9 := Tryz.isAgg9
  z9 := Tryz.sizeOf9
  v9 := Tryz.zeroValue9
  t20 := Tryz.underlying20
  a20 := Tryz.isAgg20
  z20 := Tryz.sizeOf20
  v20 := Tryz.zeroValue20
  t37 := Tryz.underlying52
  a37 := Tryz.isAgg52
  z37 := Tryz.sizeOf52
  v37 := Tryz.zeroValue52
  t46 := Tryz.underlying61
  a46 := Tryz.isAgg61
  z46 := Tryz.sizeOf61
  v46 := Tryz.zeroValue61
  t51 := Tryz.underlying142
  a51 := Tryz.isAgg142
  z51 := Tryz.sizeOf142
  v51 := Tryz.zeroValue142
  t53 := Tryz.underlying73
  a53 := Tryz.isAgg73
  z53 := Tryz.sizeOf73
  v53 := Tryz.zeroValue73
  t171 := Tryz.underlying122
  a171 := Tryz.isAgg122
  z171 := Tryz.sizeOf122
  v171 := Tryz.zeroValue122
  t173 := Tryz.underlying124
  a173 := Tryz.isAgg124
  z173 := Tryz.sizeOf124
  v173 := Tryz.zeroValue124
  t212 := Tryz.underlying141
  a212 := Tryz.isAgg141
  z212 := Tryz.sizeOf141
  v212 := Tryz.zeroValue141
  t213 := Tryz.underlying143
  a213 := Tryz.isAgg143
  z213 := Tryz.sizeOf143
  t232 := Tryz.underlying156
  a232 := Tryz.isAgg156
  z232 := Tryz.sizeOf156
  v232 := Tryz.zeroValue156
  t233 := Tryz.underlying157
  a233 := Tryz.isAgg157
  z233 := Tryz.sizeOf157
  v233 := Tryz.zeroValue157
  g17 := by kernel_rfl
  g18 := by kernel_rfl
  g19 := by kernel_rfl }
open Go.RowKit Go.Sort Go.Lib in
theorem Tryz.strconv_Itoa_small (i : Nat) (hi : i < 100) (w : World) :
    Calls Tryz.prog 31 #[.int .i64 i] w fun e w' => e = .returned (.string ⟨(Lib.decDigits i).toArray⟩) ∧ w' = w := Any.strconv_Itoa_small Tryz.lays171 i hi w
def Tryz.lays217_ren : Go.Shelf.Ren := ⟨fun | 217 => 104 | 266 => 127 | n => n, fun | 9 => 9 | 5 => 5 | 3 => 3 | n => n, fun | n => n⟩
theorem Tryz.lays217 : Go.Proofs.Lays.n217 Tryz.prog Tryz.lays217_ren := {
  mixed := by kernel_rfl
  f217 := Tryz.func104.trans (congrArg some (by kernel_rfl))
  f266 := Tryz.func127.trans (congrArg some (by kernel_rfl))
  t3 := Tryz.underlying3
  a3 := Tryz.isAgg3
  z3 := Tryz.sizeOf3
  v3 := Tryz.zeroValue3
  t5 := Tryz.underlying5
  a5 := Tryz.isAgg5
  z5 := Tryz.sizeOf5
  v5 := Tryz.zeroValue5
  t9 := Tryz.underlying9
  a9 := Tryz.isAgg9
  z9 := Tryz.sizeOf9
  v9 := Tryz.zeroValue9 }
open Go.RowKit Go.Lib in
theorem Tryz.stringslite_IndexByte (s : ByteArray) (c : Int) (w : World) :
    Calls Tryz.prog 104 #[.string s, .int .u8 c] w fun e w' => e = .returned (.int .i64 (Lib.indexByte s.data.toList c.toNat.toUInt8)) ∧ w' = w := Any.stringslite_IndexByte Tryz.lays217 s c w
def Tryz.lays224_ren : Go.Shelf.Ren := ⟨fun | 224 => 112 | n => n, fun | 3 => 3 | n => n, fun | n => n⟩
theorem Tryz.lays224 : Go.Proofs.Lays.n224 Tryz.prog Tryz.lays224_ren := {
  mixed := by kernel_rfl
  f224 := Tryz.func112.trans (congrArg some (by kernel_rfl))
  t3 := Tryz.underlying3
  a3 := Tryz.isAgg3
  z3 := Tryz.sizeOf3
  v3 := Tryz.zeroValue3 }
open Go.RowKit Go.Lib in
theorem Tryz.bytealg_Cutover (n : Int) (h0 : 0 ≤ n) (h1 : n < 4611686018427387904) (w : World) :
    Calls Tryz.prog 112 #[.int .i64 n] w fun e w' => e = .returned (.int .i64 ((n + 16) / 8)) ∧ w' = w := Any.bytealg_Cutover Tryz.lays224 n h0 h1 w
def Tryz.lays314_ren : Go.Shelf.Ren := ⟨fun | 314 => 137 | n => n, fun | 9 => 9 | 51 => 142 | 3 => 3 | 4 => 4 | 5 => 5 | 46 => 61 | n => n, fun | n => n⟩
theorem Tryz.lays314 : Go.Proofs.Lays.n314 Tryz.prog Tryz.lays314_ren := {
  mixed := by kernel_rfl
  f314 := Tryz.func137.trans (congrArg some (by kernel_rfl))
  t3 := Tryz.underlying3
  a3 := Tryz.isAgg3
  z3 := Tryz.sizeOf3
  v3 := Tryz.zeroValue3
  t4 := Tryz.underlying4
  a4 := Tryz.isAgg4
  z4 := Tryz.sizeOf4
  v4 := Tryz.zeroValue4
  t5 := Tryz.underlying5
  a5 := Tryz.isAgg5
  z5 := Tryz.sizeOf5
  v5 := Tryz.zeroValue5
  t9 := Tryz.underlying9
  a9 := Tryz.isAgg9
  z9 := Tryz.sizeOf9
  v9 := Tryz.zeroValue9
  t46 := Tryz.underlying61
  a46 := Tryz.isAgg61
  z46 := Tryz.sizeOf61
  v46 := Tryz.zeroValue61
  t51 := Tryz.underlying142
  a51 := Tryz.isAgg142
  z51 := Tryz.sizeOf142
  v51 := Tryz.zeroValue142 }
open Go.RowKit Go.Lib in
theorem Tryz.bytealg_hashStr (sep : ByteArray) (hs : sep.size < 4294967281) (w : World) :
    Calls Tryz.prog 137 #[.string sep] w fun e w' => e = .returned (.tuple #[.int .u32 (RK.H sep.data.toList % 4294967296), .int .u32 (16777619 ^ sep.size % 4294967296)]) ∧ w' = w := Any.bytealg_hashStr Tryz.lays314 sep hs w
def Tryz.lays267_ren : Go.Shelf.Ren := ⟨fun | 267 => 133 | 314 => 137 | n => n, fun | 9 => 9 | 3 => 3 | 146 => 158 | 51 => 142 | 4 => 4 | 5 => 5 | 46 => 61 | n => n, fun | n => n⟩
theorem Tryz.lays267 : Go.Proofs.Lays.n267 Tryz.prog Tryz.lays267_ren := {
  mixed := by kernel_rfl
  f267 := Tryz.func133.trans (congrArg some (by kernel_rfl))
  f314 := Tryz.func137.trans (congrArg some (by kernel_rfl))
  t3 := Tryz.underlying3
  a3 := Tryz.isAgg3
  z3 := Tryz.sizeOf3
  v3 := Tryz.zeroValue3
  t4 := Tryz.underlying4
  a4 := Tryz.isAgg4
  z4 := Tryz.sizeOf4
  v4 := Tryz.zeroValue4
  t5 := Tryz.underlying5
  a5 := Tryz.isAgg5
  z5 := Tryz.sizeOf5
  v5 := Tryz.zeroValue5
  t9 := Tryz.underlying9
  a9 := Tryz.isAgg9
  z9 := Tryz.sizeOf9
  v9 := Tryz.zeroValue9
  t46 := Tryz.underlying61
  a46 := Tryz.isAgg61
  z46 := Tryz.sizeOf61
  v46 := Tryz.zeroValue61
  t51 := Tryz.underlying142
  a51 := Tryz.isAgg142
  z51 := Tryz.sizeOf142
  v51 := Tryz.zeroValue142
  t146 := Tryz.underlying158
  a146 := Tryz.isAgg158
  z146 := Tryz.sizeOf158
  v146 := Tryz.zeroValue158 }
open Go.RowKit Go.Lib in
theorem Tryz.bytealg_IndexRabinKarp (s sep : ByteArray) (h1 : 1 ≤ sep.size) (h2 : sep.size ≤ s.size) (hs : s.size < 4294967281) (w : World) :
    Calls Tryz.prog 133 #[.string s, .string sep] w fun e w' => e = .returned (.int .i64 (Lib.index s.data.toList sep.data.toList)) ∧ w' = w := Any.bytealg_IndexRabinKarp Tryz.lays267 s sep h1 h2 hs w
def Tryz.lays219_ren : Go.Shelf.Ren := ⟨fun | 219 => 121 | 217 => 104 | 225 => 113 | 224 => 112 | 267 => 133 | 266 => 127 | 314 => 137 | n => n, fun | 9 => 9 | 3 => 3 | 4 => 4 | 5 => 5 | 46 => 61 | 146 => 158 | 51 => 142 | n => n, fun | 1 => 4 | n => n⟩
theorem Tryz.lays219 : Go.Proofs.Lays.n219 Tryz.prog Tryz.lays219_ren := {
  mixed := by kernel_rfl
  f217 := Tryz.func104.trans (congrArg some (by kernel_rfl))
  f219 := Tryz.func121.trans (congrArg some (by kernel_rfl))
  f224 := Tryz.func112.trans (congrArg some (by kernel_rfl))
  f225 := Tryz.func113.trans (congrArg some (by kernel_rfl))
  f266 := Tryz.func127.trans (congrArg some (by kernel_rfl))
  f267 := Tryz.func133.trans (congrArg some (by kernel_rfl))
  f314 := Tryz.func137.trans (congrArg some (by kernel_rfl))
  t3 := Tryz.underlying3
  a3 := Tryz.isAgg3
  z3 := Tryz.sizeOf3
  v3 := Tryz.zeroValue3
  t4 := Tryz.underlying4
  a4 := Tryz.isAgg4
  z4 := Tryz.sizeOf4
  v4 := Tryz.zeroValue4
  t5 := Tryz.underlying5
  a5 := Tryz.isAgg5
  z5 := Tryz.sizeOf5
  v5 := Tryz.zeroValue5
  t9 := Tryz.underlying9
  a9 := Tryz.isAgg9
  z9 := Tryz.sizeOf9
  v9 := Tryz.zeroValue9
  t46 := Tryz.underlying61
  a46 := Tryz.isAgg61
  z46 := Tryz.sizeOf61
  v46 := Tryz.zeroValue61
  t51 := Tryz.underlying142
  a51 := Tryz.isAgg142
  z51 := Tryz.sizeOf142
  v51 := Tryz.zeroValue142
  t146 := Tryz.underlying158
  a146 := Tryz.isAgg158
  z146 := Tryz.sizeOf158
  v146 := Tryz.zeroValue158
  g1 := by kernel_rfl }
open Go.RowKit Go.Lib in
theorem Tryz.stringslite_Index_one (s : ByteArray) (c : UInt8) (w : World) :
    Calls Tryz.prog 121 #[.string s, .string ⟨#[c]⟩] w fun e w' => e = .returned (.int .i64 (Lib.indexByte s.data.toList c)) ∧ w' = w := Any.stringslite_Index_one Tryz.lays219 s c w
open Go.RowKit Go.Lib in
theorem Tryz.stringslite_Index (s sub : ByteArray) (m : Int) (w : World) (hs : s.size < 4294967281) (hm : w.cell? ⟨4, 0, none⟩ = some (.int .i64 m)) :
    Calls Tryz.prog 121 #[.string s, .string sub] w fun e w' => e = .returned (.int .i64 (Lib.index s.data.toList sub.data.toList)) ∧ w' = w := Any.stringslite_Index Tryz.lays219 s sub m w hs hm
def Tryz.lays143_ren : Go.Shelf.Ren := ⟨fun | 143 => 96 | 219 => 121 | 217 => 104 | 225 => 113 | 224 => 112 | 267 => 133 | 266 => 127 | 314 => 137 | n => n, fun | 9 => 9 | 3 => 3 | 4 => 4 | 5 => 5 | 46 => 61 | 146 => 158 | 51 => 142 | n => n, fun | 1 => 4 | n => n⟩
theorem Tryz.lays143 : Go.Proofs.Lays.n143 Tryz.prog Tryz.lays143_ren := {
  mixed := by kernel_rfl
  f143 := Tryz.func96.trans (congrArg some (by kernel_rfl))
  f217 := Tryz.func104.trans (congrArg some (by kernel_rfl))
  f219 := Tryz.func121.trans (congrArg some (by kernel_rfl))
  f224 := Tryz.func112.trans (congrArg some (by kernel_rfl))
  f225 := Tryz.func113.trans (congrArg some (by kernel_rfl))
  f266 := Tryz.func127.trans (congrArg some (by kernel_rfl))
  f267 := Tryz.func133.trans (congrArg some (by kernel_rfl))
  f314 := Tryz.func137.trans (congrArg some (by kernel_rfl))
  t3 := Tryz.underlying3
  a3 := Tryz.isAgg3
  z3 := Tryz.sizeOf3
  v3 := Tryz.zeroValue3
  t4 := Tryz.underlying4
  a4 := Tryz.isAgg4
  z4 := Tryz.sizeOf4
  v4 := Tryz.zeroValue4
  t5 := Tryz.underlying5
  a5 := Tryz.isAgg5
  z5 := Tryz.sizeOf5
  v5 := Tryz.zeroValue5
  t9 := Tryz.underlying9
  a9 := Tryz.isAgg9
  z9 := Tryz.sizeOf9
  v9 := Tryz.zeroValue9
  t46 := Tryz.underlying61
  a46 := Tryz.isAgg61
  z46 := Tryz.sizeOf61
  v46 := Tryz.zeroValue61
  t51 := Tryz.underlying142
  a51 := Tryz.isAgg142
  z51 := Tryz.sizeOf142
  v51 := Tryz.zeroValue142
  t146 := Tryz.underlying158
  a146 := Tryz.isAgg158
  z146 := Tryz.sizeOf158
  v146 := Tryz.zeroValue158
  g1 := by kernel_rfl }
open Go.RowKit Go.Lib in
theorem Tryz.strings_Index_one (s : ByteArray) (c : UInt8) (w : World) :
    Calls Tryz.prog 96 #[.string s, .string ⟨#[c]⟩] w fun e w' => e = .returned (.int .i64 (Lib.indexByte s.data.toList c)) ∧ w' = w := Any.strings_Index_one Tryz.lays143 s c w
open Go.RowKit Go.Lib in
theorem Tryz.strings_Index (s sub : ByteArray) (m : Int) (w : World) (hs : s.size < 4294967281) (hm : w.cell? ⟨4, 0, none⟩ = some (.int .i64 m)) :
    Calls Tryz.prog 96 #[.string s, .string sub] w fun e w' => e = .returned (.int .i64 (Lib.index s.data.toList sub.data.toList)) ∧ w' = w := Any.strings_Index Tryz.lays143 s sub m w hs hm
def Tryz.laysM219_ren : Go.Shelf.Ren := ⟨fun | 219 => 121 | 217 => 104 | 225 => 113 | 224 => 112 | 267 => 133 | 266 => 127 | 314 => 137 | n => n, fun | 9 => 9 | 3 => 3 | 4 => 4 | 5 => 5 | 46 => 61 | 146 => 158 | 51 => 142 | n => n, fun | 1 => 4 | n => n⟩
theorem Tryz.laysM219 : Go.Proofs.LaysM.n219 Tryz.prog Tryz.laysM219_ren := {
  mixed := by kernel_rfl
  f217 := Tryz.func104.trans (congrArg some (by kernel_rfl))
  f219 := Tryz.func121.trans (congrArg some (by kernel_rfl))
  f224 := Tryz.func112.trans (congrArg some (by kernel_rfl))
  f225 := Tryz.func113.trans (congrArg some (by kernel_rfl))
  f266 := Tryz.func127.trans (congrArg some (by kernel_rfl))
  f267 := Tryz.func133.trans (congrArg some (by kernel_rfl))
  f314 := Tryz.func137.trans (congrArg some (by kernel_rfl))
  t3 := Tryz.underlying3
  a3 := Tryz.isAgg3
  z3 := Tryz.sizeOf3
  v3 := Tryz.zeroValue3
  t4 := Tryz.underlying4
  a4 := Tryz.isAgg4
  z4 := Tryz.sizeOf4
  v4 := Tryz.zeroValue4
  t5 := Tryz.underlying5
  a5 := Tryz.isAgg5
  z5 := Tryz.sizeOf5
  v5 := Tryz.zeroValue5
  t9 := Tryz.underlying9
  a9 := Tryz.isAgg9
  z9 := Tryz.sizeOf9
  v9 := Tryz.zeroValue9
  t46 := Tryz.underlying61
  a46 := Tryz.isAgg61
  z46 := Tryz.sizeOf61
  v46 := Tryz.zeroValue61
  t51 := Tryz.underlying142
  a51 := Tryz.isAgg142
  z51 := Tryz.sizeOf142
  v51 := Tryz.zeroValue142
  t146 := Tryz.underlying158
  a146 := Tryz.isAgg158
  z146 := Tryz.sizeOf158
  v146 := Tryz.zeroValue158
  g1 := by kernel_rfl
  i3 := by kernel_rfl
  i4 := by kernel_rfl
  i5 := by kernel_rfl
  i9 := by kernel_rfl
  i46 := by kernel_rfl
  i51 := by kernel_rfl
  i146 := by kernel_rfl
  m1 := by kernel_rfl
  s1_3 := fun w h => Go.Proofs.cell_of_shapedOpen_int (zero := #[.int .i64 0]) (t := 3) h (of_decide_eq_true (by kernel_rfl)) (by kernel_rfl) rfl (by kernel_rfl) (by kernel_rfl) Tryz.underlying3 }
open Go.RowKit Go.Lib in
theorem Tryz.stringslite_Index_shaped (s sub : ByteArray) (w : World) (h : w.ShapedOpen Tryz.prog) (hs : s.size < 4294967281) :
    Calls Tryz.prog 121 #[.string s, .string sub] w fun e w' => e = .returned (.int .i64 (Lib.index s.data.toList sub.data.toList)) ∧ w' = w := Any.stringslite_Index_shaped Tryz.laysM219 s sub w h hs
def Tryz.laysM143_ren : Go.Shelf.Ren := ⟨fun | 143 => 96 | 219 => 121 | 217 => 104 | 225 => 113 | 224 => 112 | 267 => 133 | 266 => 127 | 314 => 137 | n => n, fun | 9 => 9 | 3 => 3 | 4 => 4 | 5 => 5 | 46 => 61 | 146 => 158 | 51 => 142 | n => n, fun | 1 => 4 | n => n⟩
theorem Tryz.laysM143 : Go.Proofs.LaysM.n143 Tryz.prog Tryz.laysM143_ren := {
  mixed := by kernel_rfl
  f143 := Tryz.func96.trans (congrArg some (by kernel_rfl))
  f217 := Tryz.func104.trans (congrArg some (by kernel_rfl))
  f219 := Tryz.func121.trans (congrArg some (by kernel_rfl))
  f224 := Tryz.func112.trans (congrArg some (by kernel_rfl))
  f225 := Tryz.func113.trans (congrArg some (by kernel_rfl))
  f266 := Tryz.func127.trans (congrArg some (by kernel_rfl))
  f267 := Tryz.func133.trans (congrArg some (by kernel_rfl))
  f314 := Tryz.func137.trans (congrArg some (by kernel_rfl))
  t3 := Tryz.underlying3
  a3 := Tryz.isAgg3
  z3 := Tryz.sizeOf3
  v3 := Tryz.zeroValue3
  t4 := Tryz.underlying4
  a4 := Tryz.isAgg4
  z4 := Tryz.sizeOf4
  v4 := Tryz.zeroValue4
  t5 := Tryz.underlying5
  a5 := Tryz.isAgg5
  z5 := Tryz.sizeOf5
  v5 := Tryz.zeroValue5
  t9 := Tryz.underlying9
  a9 := Tryz.isAgg9
  z9 := Tryz.sizeOf9
  v9 := Tryz.zeroValue9
  t46 := Tryz.underlying61
  a46 := Tryz.isAgg61
  z46 := Tryz.sizeOf61
  v46 := Tryz.zeroValue61
  t51 := Tryz.underlying142
  a51 := Tryz.isAgg142
  z51 := Tryz.sizeOf142
  v51 := Tryz.zeroValue142
  t146 := Tryz.underlying158
  a146 := Tryz.isAgg158
  z146 := Tryz.sizeOf158
  v146 := Tryz.zeroValue158
  g1 := by kernel_rfl
  i3 := by kernel_rfl
  i4 := by kernel_rfl
  i5 := by kernel_rfl
  i9 := by kernel_rfl
  i46 := by kernel_rfl
  i51 := by kernel_rfl
  i146 := by kernel_rfl
  m1 := by kernel_rfl
  s1_3 := fun w h => Go.Proofs.cell_of_shapedOpen_int (zero := #[.int .i64 0]) (t := 3) h (of_decide_eq_true (by kernel_rfl)) (by kernel_rfl) rfl (by kernel_rfl) (by kernel_rfl) Tryz.underlying3 }
open Go.RowKit Go.Lib in
theorem Tryz.strings_Index_shaped (s sub : ByteArray) (w : World) (h : w.ShapedOpen Tryz.prog) (hs : s.size < 4294967281) :
    Calls Tryz.prog 96 #[.string s, .string sub] w fun e w' => e = .returned (.int .i64 (Lib.index s.data.toList sub.data.toList)) ∧ w' = w := Any.strings_Index_shaped Tryz.laysM143 s sub w h hs
def Tryz.lays206_ren : Go.Shelf.Ren := ⟨fun | 206 => 95 | n => n, fun | 9 => 9 | 4 => 4 | 3 => 3 | n => n, fun | n => n⟩
theorem Tryz.lays206 : Go.Proofs.Lays.n206 Tryz.prog Tryz.lays206_ren := {
  mixed := by kernel_rfl
  f206 := Tryz.func95.trans (congrArg some (by kernel_rfl))
  t3 := Tryz.underlying3
  a3 := Tryz.isAgg3
  z3 := Tryz.sizeOf3
  v3 := Tryz.zeroValue3
  t4 := Tryz.underlying4
  a4 := Tryz.isAgg4
  z4 := Tryz.sizeOf4
  v4 := Tryz.zeroValue4
  t9 := Tryz.underlying9
  a9 := Tryz.isAgg9
  z9 := Tryz.sizeOf9
  v9 := Tryz.zeroValue9 }
open Go.RowKit Go.Lib in
theorem Tryz.stringslite_HasPrefix (s p : ByteArray) (w : World) :
    Calls Tryz.prog 95 #[.string s, .string p] w fun e w' => e = .returned (.bool (Lib.hasPrefix s.data.toList p.data.toList)) ∧ w' = w := Any.stringslite_HasPrefix Tryz.lays206 s p w
def Tryz.lays99_ren : Go.Shelf.Ren := ⟨fun | 99 => 63 | 206 => 95 | n => n, fun | 9 => 9 | 4 => 4 | 3 => 3 | n => n, fun | n => n⟩
theorem Tryz.lays99 : Go.Proofs.Lays.n99 Tryz.prog Tryz.lays99_ren := {
  mixed := by kernel_rfl
  f99 := Tryz.func63.trans (congrArg some (by kernel_rfl))
  f206 := Tryz.func95.trans (congrArg some (by kernel_rfl))
  t3 := Tryz.underlying3
  a3 := Tryz.isAgg3
  z3 := Tryz.sizeOf3
  v3 := Tryz.zeroValue3
  t4 := Tryz.underlying4
  a4 := Tryz.isAgg4
  z4 := Tryz.sizeOf4
  v4 := Tryz.zeroValue4
  t9 := Tryz.underlying9
  a9 := Tryz.isAgg9
  z9 := Tryz.sizeOf9
  v9 := Tryz.zeroValue9 }
open Go.RowKit Go.Lib in
theorem Tryz.strings_HasPrefix (s p : ByteArray) (w : World) :
    Calls Tryz.prog 63 #[.string s, .string p] w fun e w' => e = .returned (.bool (Lib.hasPrefix s.data.toList p.data.toList)) ∧ w' = w := Any.strings_HasPrefix Tryz.lays99 s p w
def Tryz.lays152_ren : Go.Shelf.Ren := ⟨fun | 152 => 79 | 137 => 70 | 119 => 111 | 224 => 112 | 225 => 113 | 217 => 104 | 266 => 127 | n => n, fun | 9 => 9 | 21 => 21 | 3 => 3 | 4 => 4 | 5 => 5 | 0 => 0 | 46 => 61 | n => n, fun | n => n⟩
theorem Tryz.lays152 : Go.Proofs.Lays.n152 Tryz.prog Tryz.lays152_ren := {
  mixed := by kernel_rfl
  f119 := Tryz.func111.trans (congrArg some (by kernel_rfl))
  f137 := Tryz.func70.trans (congrArg some (by kernel_rfl))
  f152 := Tryz.func79.trans (congrArg some (by kernel_rfl))
  f217 := Tryz.func104.trans (congrArg some (by kernel_rfl))
  f224 := Tryz.func112.trans (congrArg some (by kernel_rfl))
  f225 := Tryz.func113.trans (congrArg some (by kernel_rfl))
  f266 := Tryz.func127.trans (congrArg some (by kernel_rfl))
  t0 := Tryz.underlying0
  a0 := Tryz.isAgg0
  z0 := Tryz.sizeOf0
  v0 := Tryz.zeroValue0
  t3 := Tryz.underlying3
  a3 := Tryz.isAgg3
  z3 := Tryz.sizeOf3
  v3 := Tryz.zeroValue3
  t4 := Tryz.underlying4
  a4 := Tryz.isAgg4
  z4 := Tryz.sizeOf4
  v4 := Tryz.zeroValue4
  t5 := Tryz.underlying5
  a5 := Tryz.isAgg5
  z5 := Tryz.sizeOf5
  v5 := Tryz.zeroValue5
  t9 := Tryz.underlying9
  a9 := Tryz.isAgg9
  z9 := Tryz.sizeOf9
  v9 := Tryz.zeroValue9
  t21 := Tryz.underlying21
  a21 := Tryz.isAgg21
  z21 := Tryz.sizeOf21
  v21 := Tryz.zeroValue21
  t46 := Tryz.underlying61
  a46 := Tryz.isAgg61
  z46 := Tryz.sizeOf61
  v46 := Tryz.zeroValue61 }
open Go.RowKit Go.Lib in
theorem Tryz.strings_IndexRune_ascii (s : ByteArray) (r : Int) (w : World) (h0 : 0 ≤ r) (h1 : r < 128) :
    Calls Tryz.prog 79 #[.string s, .int .i32 r] w fun e w' => e = .returned (.int .i64 (Lib.indexByte s.data.toList r.toNat.toUInt8)) ∧ w' = w := Any.strings_IndexRune_ascii Tryz.lays152 s r w h0 h1
def Tryz.lays151_ren : Go.Shelf.Ren := ⟨fun | 151 => 115 | 152 => 79 | 137 => 70 | 119 => 111 | 224 => 112 | 225 => 113 | 217 => 104 | 266 => 127 | n => n, fun | 9 => 9 | 21 => 21 | 4 => 4 | 3 => 3 | 5 => 5 | 0 => 0 | 46 => 61 | n => n, fun | n => n⟩
theorem Tryz.lays151 : Go.Proofs.Lays.n151 Tryz.prog Tryz.lays151_ren := {
  mixed := by kernel_rfl
  f119 := Tryz.func111.trans (congrArg some (by kernel_rfl))
  f137 := Tryz.func70.trans (congrArg some (by kernel_rfl))
  f151 := Tryz.func115.trans (congrArg some (by kernel_rfl))
  f152 := Tryz.func79.trans (congrArg some (by kernel_rfl))
  f217 := Tryz.func104.trans (congrArg some (by kernel_rfl))
  f224 := Tryz.func112.trans (congrArg some (by kernel_rfl))
  f225 := Tryz.func113.trans (congrArg some (by kernel_rfl))
  f266 := Tryz.func127.trans (congrArg some (by kernel_rfl))
  t0 := Tryz.underlying0
  a0 := Tryz.isAgg0
  z0 := Tryz.sizeOf0
  v0 := Tryz.zeroValue0
  t3 := Tryz.underlying3
  a3 := Tryz.isAgg3
  z3 := Tryz.sizeOf3
  v3 := Tryz.zeroValue3
  t4 := Tryz.underlying4
  a4 := Tryz.isAgg4
  z4 := Tryz.sizeOf4
  v4 := Tryz.zeroValue4
  t5 := Tryz.underlying5
  a5 := Tryz.isAgg5
  z5 := Tryz.sizeOf5
  v5 := Tryz.zeroValue5
  t9 := Tryz.underlying9
  a9 := Tryz.isAgg9
  z9 := Tryz.sizeOf9
  v9 := Tryz.zeroValue9
  t21 := Tryz.underlying21
  a21 := Tryz.isAgg21
  z21 := Tryz.sizeOf21
  v21 := Tryz.zeroValue21
  t46 := Tryz.underlying61
  a46 := Tryz.isAgg61
  z46 := Tryz.sizeOf61
  v46 := Tryz.zeroValue61 }
open Go.RowKit Go.Lib in
theorem Tryz.strings_ContainsRune_ascii (s : ByteArray) (r : Int) (w : World) (h0 : 0 ≤ r) (h1 : r < 128) :
    Calls Tryz.prog 115 #[.string s, .int .i32 r] w fun e w' => e = .returned (.bool (decide (0 ≤ Lib.indexByte s.data.toList r.toNat.toUInt8))) ∧ w' = w := Any.strings_ContainsRune_ascii Tryz.lays151 s r w h0 h1
def Tryz.lays226_ren : Go.Shelf.Ren := ⟨fun | 226 => 80 | n => n, fun | 3 => 3 | 4 => 4 | n => n, fun | n => n⟩
theorem Tryz.lays226 : Go.Proofs.Lays.n226 Tryz.prog Tryz.lays226_ren := {
  mixed := by kernel_rfl
  f226 := Tryz.func80.trans (congrArg some (by kernel_rfl))
  t3 := Tryz.underlying3
  a3 := Tryz.isAgg3
  z3 := Tryz.sizeOf3
  v3 := Tryz.zeroValue3
  t4 := Tryz.underlying4
  a4 := Tryz.isAgg4
  z4 := Tryz.sizeOf4
  v4 := Tryz.zeroValue4 }
open Go.RowKit Go.Lib in
theorem Tryz.strings_shouldUseASCIISet (n : Int) (w : World) :
    Calls Tryz.prog 80 #[.int .i64 n] w fun e w' => e = .returned (.bool (decide (8 < n))) ∧ w' = w := Any.strings_shouldUseASCIISet Tryz.lays226 n w
def Tryz.lays153_ren : Go.Shelf.Ren := ⟨fun | 153 => 57 | 152 => 79 | 226 => 80 | 227 => 81 | 228 => 82 | 137 => 70 | 119 => 111 | 224 => 112 | 225 => 113 | 217 => 104 | 266 => 127 | n => n, fun | 9 => 9 | 3 => 3 | 4 => 4 | 5 => 5 | 21 => 21 | 117 => 117 | 116 => 116 | 0 => 0 | 46 => 61 | 124 => 121 | n => n, fun | n => n⟩
theorem Tryz.lays153 : Go.Proofs.Lays.n153 Tryz.prog Tryz.lays153_ren := {
  mixed := by kernel_rfl
  f119 := Tryz.func111.trans (congrArg some (by kernel_rfl))
  f137 := Tryz.func70.trans (congrArg some (by kernel_rfl))
  f152 := Tryz.func79.trans (congrArg some (by kernel_rfl))
  f153 := Tryz.func57.trans (congrArg some (by kernel_rfl))
  f217 := Tryz.func104.trans (congrArg some (by kernel_rfl))
  f224 := Tryz.func112.trans (congrArg some (by kernel_rfl))
  f225 := Tryz.func113.trans (congrArg some (by kernel_rfl))
  f226 := Tryz.func80.trans (congrArg some (by kernel_rfl))
  f227 := Tryz.func81.trans (congrArg some (by kernel_rfl))
  f228 := Tryz.func82.trans (congrArg some (by kernel_rfl))
  f266 := Tryz.func127.trans (congrArg some (by kernel_rfl))
  t0 := Tryz.underlying0
  a0 := Tryz.isAgg0
  z0 := Tryz.sizeOf0
  v0 := Tryz.zeroValue0
  t3 := Tryz.underlying3
  a3 := Tryz.isAgg3
  z3 := Tryz.sizeOf3
  v3 := Tryz.zeroValue3
  t4 := Tryz.underlying4
  a4 := Tryz.isAgg4
  z4 := Tryz.sizeOf4
  v4 := Tryz.zeroValue4
  t5 := Tryz.underlying5
  a5 := Tryz.isAgg5
  z5 := Tryz.sizeOf5
  v5 := Tryz.zeroValue5
  t9 := Tryz.underlying9
  a9 := Tryz.isAgg9
  z9 := Tryz.sizeOf9
  v9 := Tryz.zeroValue9
  t21 := Tryz.underlying21
  a21 := Tryz.isAgg21
  z21 := Tryz.sizeOf21
  v21 := Tryz.zeroValue21
  t46 := Tryz.underlying61
  a46 := Tryz.isAgg61
  z46 := Tryz.sizeOf61
  v46 := Tryz.zeroValue61
  t116 := Tryz.underlying116
  a116 := Tryz.isAgg116
  z116 := Tryz.sizeOf116
  t117 := Tryz.underlying117
  a117 := Tryz.isAgg117
  z117 := Tryz.sizeOf117
  v117 := Tryz.zeroValue117
  t124 := Tryz.underlying121
  a124 := Tryz.isAgg121
  z124 := Tryz.sizeOf121
  v124 := Tryz.zeroValue121 }
open Go.RowKit Go.Lib in
theorem Tryz.strings_IndexAny_none (s chars : ByteArray) (w : World) (h0 : chars.size = 0) :
    Calls Tryz.prog 57 #[.string s, .string chars] w fun e w' => e = .returned (.int .i64 (Lib.indexAny s.data.toList chars.data.toList)) ∧ w' = w := Any.strings_IndexAny_none Tryz.lays153 s chars w h0
open Go.RowKit Go.Lib in
theorem Tryz.strings_IndexAny_one (s chars : ByteArray) (w : World) (h1 : chars.size = 1) (hascii : ∀ (j : Nat) b, chars.data.toList[j]? = some b → b.toNat < 128) :
    Calls Tryz.prog 57 #[.string s, .string chars] w fun e w' => e = .returned (.int .i64 (Lib.indexAny s.data.toList chars.data.toList)) ∧ w' = w := Any.strings_IndexAny_one Tryz.lays153 s chars w h1 hascii
open Go.RowKit Go.Lib in
theorem Tryz.strings_IndexAny_short (s chars : ByteArray) (w : World) (h2 : 2 ≤ chars.size) (h8 : s.size ≤ 8) (hascii : ∀ (j : Nat) b, s.data.toList[j]? = some b → b.toNat < 128) :
    Calls Tryz.prog 57 #[.string s, .string chars] w fun e w' => e = .returned (.int .i64 (Lib.indexAny s.data.toList chars.data.toList)) ∧ ∃ pos, w' = w.iter s pos := Any.strings_IndexAny_short Tryz.lays153 s chars w h2 h8 hascii
def Tryz.lays227_ren : Go.Shelf.Ren := ⟨fun | 227 => 81 | n => n, fun | 9 => 9 | 116 => 116 | 4 => 4 | 0 => 0 | 3 => 3 | 5 => 5 | n => n, fun | n => n⟩
theorem Tryz.lays227 : Go.Proofs.Lays.n227 Tryz.prog Tryz.lays227_ren := {
  mixed := by kernel_rfl
  f227 := Tryz.func81.trans (congrArg some (by kernel_rfl))
  t0 := Tryz.underlying0
  a0 := Tryz.isAgg0
  z0 := Tryz.sizeOf0
  v0 := Tryz.zeroValue0
  t3 := Tryz.underlying3
  a3 := Tryz.isAgg3
  z3 := Tryz.sizeOf3
  v3 := Tryz.zeroValue3
  t4 := Tryz.underlying4
  a4 := Tryz.isAgg4
  z4 := Tryz.sizeOf4
  v4 := Tryz.zeroValue4
  t5 := Tryz.underlying5
  a5 := Tryz.isAgg5
  z5 := Tryz.sizeOf5
  v5 := Tryz.zeroValue5
  t9 := Tryz.underlying9
  a9 := Tryz.isAgg9
  z9 := Tryz.sizeOf9
  v9 := Tryz.zeroValue9
  t116 := Tryz.underlying116
  a116 := Tryz.isAgg116
  z116 := Tryz.sizeOf116 }
open Go.RowKit Go.Lib in
theorem Tryz.strings_makeASCIISet (hv116 : ∀ w, (zeroValue 116).run Tryz.prog w = .ok (.agg (Array.replicate 256 (.bool false))) w) (chars : ByteArray) (w : World) (hs : chars.size < 4294967281) (hascii : ∀ (j : Nat) b, chars.data.toList[j]? = some b → b.toNat < 128) :
    Calls Tryz.prog 81 #[.string chars] w fun e w' => e = .returned (.tuple #[.agg (Lib.setCells chars.data.toList), .bool true]) ∧ w' = w.alloc (.cells (Lib.setCells chars.data.toList) 116) := Any.strings_makeASCIISet Tryz.lays227 hv116 (by kernel_rfl) chars w hs hascii
def Tryz.lays228_ren : Go.Shelf.Ren := ⟨fun | 228 => 82 | n => n, fun | 124 => 121 | 5 => 5 | 4 => 4 | 0 => 0 | 116 => 116 | n => n, fun | n => n⟩
theorem Tryz.lays228 : Go.Proofs.Lays.n228 Tryz.prog Tryz.lays228_ren := {
  mixed := by kernel_rfl
  f228 := Tryz.func82.trans (congrArg some (by kernel_rfl))
  t0 := Tryz.underlying0
  a0 := Tryz.isAgg0
  z0 := Tryz.sizeOf0
  v0 := Tryz.zeroValue0
  t4 := Tryz.underlying4
  a4 := Tryz.isAgg4
  z4 := Tryz.sizeOf4
  v4 := Tryz.zeroValue4
  t5 := Tryz.underlying5
  a5 := Tryz.isAgg5
  z5 := Tryz.sizeOf5
  v5 := Tryz.zeroValue5
  t116 := Tryz.underlying116
  a116 := Tryz.isAgg116
  z116 := Tryz.sizeOf116
  t124 := Tryz.underlying121
  a124 := Tryz.isAgg121
  z124 := Tryz.sizeOf121
  v124 := Tryz.zeroValue121 }
open Go.RowKit Go.Lib in
theorem Tryz.asciiSet_contains (b : Nat) (x : UInt8) (v : Bool) (w : World) (hc : w.cell? ⟨b, x.toNat, none⟩ = some (.bool v)) :
    Calls Tryz.prog 82 #[.pointer (some ⟨b, 0, none⟩), .int .u8 x.toNat] w fun e w' => e = .returned (.bool v) ∧ w' = w := Any.asciiSet_contains Tryz.lays228 b x v w hc
open Go.RowKit Go.Lib in
theorem Tryz.strings_IndexAny_long (hv116 : ∀ w, (zeroValue 116).run Tryz.prog w = .ok (.agg (Array.replicate 256 (.bool false))) w) (s chars : ByteArray) (w : World) (h2 : 2 ≤ chars.size) (h8 : 8 < s.size) (hs : s.size < 4294967281) (hcs : chars.size < 4294967281) (hascii : ∀ (j : Nat) b, chars.data.toList[j]? = some b → b.toNat < 128) :
    Calls Tryz.prog 57 #[.string s, .string chars] w fun e w' => e = .returned (.int .i64 (Lib.indexAny s.data.toList chars.data.toList)) ∧ w' = ((w.alloc (.cells (Lib.setCells chars.data.toList) 116)).alloc (.cells (Lib.setCells chars.data.toList) 116)) := Any.strings_IndexAny_long Tryz.lays153 hv116 (by kernel_rfl) s chars w h2 h8 hs hcs hascii
open Go.RowKit Go.Lib in
theorem Tryz.strings_IndexAny (hv116 : ∀ w, (zeroValue 116).run Tryz.prog w = .ok (.agg (Array.replicate 256 (.bool false))) w) (s chars : ByteArray) (w : World) (hs : s.size < 4294967281) (hcs : chars.size < 4294967281) (has : ∀ (j : Nat) b, s.data.toList[j]? = some b → b.toNat < 128) (hac : ∀ (j : Nat) b, chars.data.toList[j]? = some b → b.toNat < 128) :
    Calls Tryz.prog 57 #[.string s, .string chars] w fun e w' => e = .returned (.int .i64 (Lib.indexAny s.data.toList chars.data.toList)) ∧ Below w.heap.size w w' := Any.strings_IndexAny Tryz.lays153 hv116 (by kernel_rfl) s chars w hs hcs has hac
open Go.RowKit Go.Lib in
theorem Tryz.strings_IndexAny_laid (s chars : ByteArray) (w : World) (hs : s.size < 4294967281) (hcs : chars.size < 4294967281) (has : ∀ (j : Nat) b, s.data.toList[j]? = some b → b.toNat < 128) (hac : ∀ (j : Nat) b, chars.data.toList[j]? = some b → b.toNat < 128) :
    Calls Tryz.prog 57 #[.string s, .string chars] w fun e w' => e = .returned (.int .i64 (Lib.indexAny s.data.toList chars.data.toList)) ∧ Below w.heap.size w w' := Any.strings_IndexAny_laid Tryz.lays153 (by kernel_rfl) s chars w hs hcs has hac
def Tryz.lays264_ren : Go.Shelf.Ren := ⟨fun | 264 => 40 | n => n, fun | 53 => 73 | 46 => 61 | n => n, fun | n => n⟩
theorem Tryz.lays264 : Go.Proofs.Lays.n264 Tryz.prog Tryz.lays264_ren := {
  mixed := by kernel_rfl
  f264 := Tryz.func40.trans (congrArg some (by kernel_rfl))
  t46 := Tryz.underlying61
  a46 := Tryz.isAgg61
  z46 := Tryz.sizeOf61
  v46 := Tryz.zeroValue61
  t53 := Tryz.underlying73
  a53 := Tryz.isAgg73
  z53 := Tryz.sizeOf73
  v53 := Tryz.zeroValue73 }
open Go.RowKit Go.Lib in
theorem Tryz.bits_Mul64 (x y : Nat) (hx : x < 18446744073709551616) (hy : y < 18446744073709551616) (w : World) :
    Calls Tryz.prog 40 #[.int .u64 x, .int .u64 y] w fun e w' => e = .returned (.tuple #[.int .u64 ((x * y / 18446744073709551616 : Nat) : Int), .int .u64 ((x * y % 18446744073709551616 : Nat) : Int)]) ∧ w' = w := Any.bits_Mul64 Tryz.lays264 x y hx hy w
def Tryz.lays260_ren : Go.Shelf.Ren := ⟨fun | 260 => 129 | n => n, fun | 9 => 9 | 21 => 21 | 3 => 3 | 4 => 4 | 5 => 5 | 119 => 152 | 0 => 0 | 46 => 61 | 139 => 155 | 138 => 154 | n => n, fun | 3 => 5 | 4 => 6 | n => n⟩
theorem Tryz.lays260 : Go.Proofs.Lays.n260 Tryz.prog Tryz.lays260_ren := {
  mixed := by kernel_rfl
  f260 := Tryz.func129.trans (congrArg some (by kernel_rfl))
  t0 := Tryz.underlying0
  a0 := Tryz.isAgg0
  z0 := Tryz.sizeOf0
  v0 := Tryz.zeroValue0
  t3 := Tryz.underlying3
  a3 := Tryz.isAgg3
  z3 := Tryz.sizeOf3
  v3 := Tryz.zeroValue3
  t4 := Tryz.underlying4
  a4 := Tryz.isAgg4
  z4 := Tryz.sizeOf4
  v4 := Tryz.zeroValue4
  t5 := Tryz.underlying5
  a5 := Tryz.isAgg5
  z5 := Tryz.sizeOf5
  v5 := Tryz.zeroValue5
  t9 := Tryz.underlying9
  a9 := Tryz.isAgg9
  z9 := Tryz.sizeOf9
  v9 := Tryz.zeroValue9
  t21 := Tryz.underlying21
  a21 := Tryz.isAgg21
  z21 := Tryz.sizeOf21
  v21 := Tryz.zeroValue21
  t46 := Tryz.underlying61
  a46 := Tryz.isAgg61
  z46 := Tryz.sizeOf61
  v46 := Tryz.zeroValue61
  t119 := Tryz.underlying152
  a119 := Tryz.isAgg152
  z119 := Tryz.sizeOf152
  t138 := Tryz.underlying154
  a138 := Tryz.isAgg154
  z138 := Tryz.sizeOf154
  v138 := Tryz.zeroValue154
  t139 := Tryz.underlying155
  a139 := Tryz.isAgg155
  z139 := Tryz.sizeOf155
  v139 := Tryz.zeroValue155
  g3 := by kernel_rfl
  g4 := by kernel_rfl }
open Go.RowKit Go.Lib in
theorem Tryz.utf8_decodeRuneInStringSlow (s : ByteArray) (w : World) (hT : Lib.Utf8Tabs 5 6 w) :
    Calls Tryz.prog 129 #[.string s] w fun e w' => e = .returned (.tuple #[.int .i32 (Lib.decodeGo s).1, .int .i64 (Lib.decodeGo s).2]) ∧ Below w.heap.size w w' := Any.utf8_decodeRuneInStringSlow Tryz.lays260 s w hT
def Tryz.lays197_ren : Go.Shelf.Ren := ⟨fun | 197 => 114 | 260 => 129 | n => n, fun | 9 => 9 | 21 => 21 | 3 => 3 | 4 => 4 | 5 => 5 | 105 => 137 | 119 => 152 | 0 => 0 | 46 => 61 | 139 => 155 | 138 => 154 | n => n, fun | 3 => 5 | 4 => 6 | n => n⟩
theorem Tryz.lays197 : Go.Proofs.Lays.n197 Tryz.prog Tryz.lays197_ren := {
  mixed := by kernel_rfl
  f197 := Tryz.func114.trans (congrArg some (by kernel_rfl))
  f260 := Tryz.func129.trans (congrArg some (by kernel_rfl))
  t0 := Tryz.underlying0
  a0 := Tryz.isAgg0
  z0 := Tryz.sizeOf0
  v0 := Tryz.zeroValue0
  t3 := Tryz.underlying3
  a3 := Tryz.isAgg3
  z3 := Tryz.sizeOf3
  v3 := Tryz.zeroValue3
  t4 := Tryz.underlying4
  a4 := Tryz.isAgg4
  z4 := Tryz.sizeOf4
  v4 := Tryz.zeroValue4
  t5 := Tryz.underlying5
  a5 := Tryz.isAgg5
  z5 := Tryz.sizeOf5
  v5 := Tryz.zeroValue5
  t9 := Tryz.underlying9
  a9 := Tryz.isAgg9
  z9 := Tryz.sizeOf9
  v9 := Tryz.zeroValue9
  t21 := Tryz.underlying21
  a21 := Tryz.isAgg21
  z21 := Tryz.sizeOf21
  v21 := Tryz.zeroValue21
  t46 := Tryz.underlying61
  a46 := Tryz.isAgg61
  z46 := Tryz.sizeOf61
  v46 := Tryz.zeroValue61
  t105 := Tryz.underlying137
  a105 := Tryz.isAgg137
  z105 := Tryz.sizeOf137
  v105 := Tryz.zeroValue137
  t119 := Tryz.underlying152
  a119 := Tryz.isAgg152
  z119 := Tryz.sizeOf152
  t138 := Tryz.underlying154
  a138 := Tryz.isAgg154
  z138 := Tryz.sizeOf154
  v138 := Tryz.zeroValue154
  t139 := Tryz.underlying155
  a139 := Tryz.isAgg155
  z139 := Tryz.sizeOf155
  v139 := Tryz.zeroValue155
  g3 := by kernel_rfl
  g4 := by kernel_rfl }
open Go.RowKit Go.Lib in
theorem Tryz.utf8_DecodeRuneInString (s : ByteArray) (w : World) (hT : Lib.Utf8Tabs 5 6 w) :
    Calls Tryz.prog 114 #[.string s] w fun e w' => e = .returned (.tuple #[.int .i32 (Lib.decodeGo s).1, .int .i64 (Lib.decodeGo s).2]) ∧ Below w.heap.size w w' := Any.utf8_DecodeRuneInString Tryz.lays197 s w hT
def Tryz.lays271_ren : Go.Shelf.Ren := ⟨fun | 271 => 116 | 120 => 130 | 197 => 114 | 260 => 129 | n => n, fun | 9 => 9 | 21 => 21 | 3 => 3 | 4 => 4 | 5 => 5 | 105 => 137 | 119 => 152 | 0 => 0 | 46 => 61 | 139 => 155 | 138 => 154 | n => n, fun | 3 => 5 | 4 => 6 | n => n⟩
theorem Tryz.lays271 : Go.Proofs.Lays.n271 Tryz.prog Tryz.lays271_ren := {
  mixed := by kernel_rfl
  f120 := Tryz.func130.trans (congrArg some (by kernel_rfl))
  f197 := Tryz.func114.trans (congrArg some (by kernel_rfl))
  f260 := Tryz.func129.trans (congrArg some (by kernel_rfl))
  f271 := Tryz.func116.trans (congrArg some (by kernel_rfl))
  t0 := Tryz.underlying0
  a0 := Tryz.isAgg0
  z0 := Tryz.sizeOf0
  v0 := Tryz.zeroValue0
  t3 := Tryz.underlying3
  a3 := Tryz.isAgg3
  z3 := Tryz.sizeOf3
  v3 := Tryz.zeroValue3
  t4 := Tryz.underlying4
  a4 := Tryz.isAgg4
  z4 := Tryz.sizeOf4
  v4 := Tryz.zeroValue4
  t5 := Tryz.underlying5
  a5 := Tryz.isAgg5
  z5 := Tryz.sizeOf5
  v5 := Tryz.zeroValue5
  t9 := Tryz.underlying9
  a9 := Tryz.isAgg9
  z9 := Tryz.sizeOf9
  v9 := Tryz.zeroValue9
  t21 := Tryz.underlying21
  a21 := Tryz.isAgg21
  z21 := Tryz.sizeOf21
  v21 := Tryz.zeroValue21
  t46 := Tryz.underlying61
  a46 := Tryz.isAgg61
  z46 := Tryz.sizeOf61
  v46 := Tryz.zeroValue61
  t105 := Tryz.underlying137
  a105 := Tryz.isAgg137
  z105 := Tryz.sizeOf137
  v105 := Tryz.zeroValue137
  t119 := Tryz.underlying152
  a119 := Tryz.isAgg152
  z119 := Tryz.sizeOf152
  t138 := Tryz.underlying154
  a138 := Tryz.isAgg154
  z138 := Tryz.sizeOf154
  v138 := Tryz.zeroValue154
  t139 := Tryz.underlying155
  a139 := Tryz.isAgg155
  z139 := Tryz.sizeOf155
  v139 := Tryz.zeroValue155
  g3 := by kernel_rfl
  g4 := by kernel_rfl }
open Go.RowKit Go.Lib in
theorem Tryz.utf8_DecodeLastRuneInString (s : ByteArray) (w : World) (hs : s.size ≤ 9223372036854775807) (hT : Lib.Utf8Tabs 5 6 w) :
    Calls Tryz.prog 116 #[.string s] w fun e w' => e = .returned (.tuple #[.int .i32 (Lib.decodeLastL s.data.toList).1, .int .i64 (Lib.decodeLastL s.data.toList).2]) ∧ Below w.heap.size w w' := Any.utf8_DecodeLastRuneInString Tryz.lays271 s w hs hT
def Tryz.lays109_ren : Go.Shelf.Ren := ⟨fun | 109 => 74 | n => n, fun | 31 => 49 | 9 => 9 | 3 => 3 | 0 => 0 | 4 => 4 | n => n, fun | n => n⟩
theorem Tryz.lays109 : Go.Proofs.Lays.n109 Tryz.prog Tryz.lays109_ren := {
  mixed := by kernel_rfl
  f109 := Tryz.func74.trans (congrArg some (by kernel_rfl))
  t0 := Tryz.underlying0
  a0 := Tryz.isAgg0
  z0 := Tryz.sizeOf0
  v0 := Tryz.zeroValue0
  t3 := Tryz.underlying3
  a3 := Tryz.isAgg3
  z3 := Tryz.sizeOf3
  v3 := Tryz.zeroValue3
  t4 := Tryz.underlying4
  a4 := Tryz.isAgg4
  z4 := Tryz.sizeOf4
  v4 := Tryz.zeroValue4
  t9 := Tryz.underlying9
  a9 := Tryz.isAgg9
  z9 := Tryz.sizeOf9
  v9 := Tryz.zeroValue9
  t31 := Tryz.underlying49
  a31 := Tryz.isAgg49
  z31 := Tryz.sizeOf49
  v31 := Tryz.zeroValue49 }
open Go.Lib in
theorem Tryz.slices_Index_string (b off n c : Nat) (zs : List ByteArray) (x : ByteArray) (w : World) (hz : n ≤ zs.length) (hbig : n ≤ 9223372036854775807) (hc : ∀ j, j < zs.length → w.cell? ⟨b, off + j, none⟩ = some (.string (zs.getD j ByteArray.empty))) :
    Calls Tryz.prog 74 #[.slice (some ⟨b, off, none⟩) n c, .string x] w fun e w' => e = .returned (.int .i64 (Lib.idxOfS (zs.take n) x)) ∧ w' = w := Any.slices_Index_string Tryz.lays109 b off n c zs x w hz hbig hc
open Go.Lib in
theorem Tryz.slices_Index_string_empty (a : Option Addr) (c : Nat) (x : ByteArray) (w : World) :
    Calls Tryz.prog 74 #[.slice a 0 c, .string x] w fun e w' => e = .returned (.int .i64 (Lib.idxOfS [] x)) ∧ w' = w := Any.slices_Index_string_empty Tryz.lays109 a c x w
def Tryz.lays110_ren : Go.Shelf.Ren := ⟨fun | 110 => 55 | 109 => 74 | n => n, fun | 31 => 49 | 9 => 9 | 4 => 4 | 3 => 3 | 0 => 0 | n => n, fun | n => n⟩
theorem Tryz.lays110 : Go.Proofs.Lays.n110 Tryz.prog Tryz.lays110_ren := {
  mixed := by kernel_rfl
  f109 := Tryz.func74.trans (congrArg some (by kernel_rfl))
  f110 := Tryz.func55.trans (congrArg some (by kernel_rfl))
  t0 := Tryz.underlying0
  a0 := Tryz.isAgg0
  z0 := Tryz.sizeOf0
  v0 := Tryz.zeroValue0
  t3 := Tryz.underlying3
  a3 := Tryz.isAgg3
  z3 := Tryz.sizeOf3
  v3 := Tryz.zeroValue3
  t4 := Tryz.underlying4
  a4 := Tryz.isAgg4
  z4 := Tryz.sizeOf4
  v4 := Tryz.zeroValue4
  t9 := Tryz.underlying9
  a9 := Tryz.isAgg9
  z9 := Tryz.sizeOf9
  v9 := Tryz.zeroValue9
  t31 := Tryz.underlying49
  a31 := Tryz.isAgg49
  z31 := Tryz.sizeOf49
  v31 := Tryz.zeroValue49 }
open Go.Lib in
theorem Tryz.slices_Contains_string (b off n c : Nat) (zs : List ByteArray) (x : ByteArray) (w : World) (hz : n ≤ zs.length) (hbig : n ≤ 9223372036854775807) (hc : ∀ j, j < zs.length → w.cell? ⟨b, off + j, none⟩ = some (.string (zs.getD j ByteArray.empty))) :
    Calls Tryz.prog 55 #[.slice (some ⟨b, off, none⟩) n c, .string x] w fun e w' => e = .returned (.bool (Lib.containsS (zs.take n) x)) ∧ w' = w := Any.slices_Contains_string Tryz.lays110 b off n c zs x w hz hbig hc
open Go.Lib in
theorem Tryz.slices_Contains_string_empty (a : Option Addr) (c : Nat) (x : ByteArray) (w : World) :
    Calls Tryz.prog 55 #[.slice a 0 c, .string x] w fun e w' => e = .returned (.bool false) ∧ w' = w := Any.slices_Contains_string_empty Tryz.lays110 a c x w
end Go.Proofs

/- A slice of ints that can be read: what the walks are told of it, and how it lies on. -/
namespace Go.Proofs.YtmnmpfcfdopjnaaGreatDoor
open Go.RowKit

/-- The slice value v reads, in the world w, as the numbers xs. -/
def Reads (w : World) (v : Value) (xs : List Int) : Prop :=
  (xs = [] ∧ ∃ a cap, v = .slice a 0 cap) ∨
  ∃ b off cap, v = .slice (some ⟨b, off, none⟩) xs.length cap ∧ b < w.heap.size ∧ ∀ i, i < xs.length → w.cell? ⟨b, off + i, none⟩ = some (.int .i64 (xs.getD i 0))

theorem Reads.below {w w' : World} {v : Value} {xs : List Int} (h : Reads w v xs) (hb : Below w.heap.size w w') : Reads w' v xs := by
  rcases h with h | ⟨b, off, cap, hv, hlt, hc⟩
  · exact .inl h
  · exact .inr ⟨b, off, cap, hv, Nat.lt_of_lt_of_le hlt hb.size, fun i hi => (hb.cell (p := ⟨b, off + i, none⟩) hlt).trans (hc i hi)⟩

theorem Reads.nil (w : World) : Reads w (.slice none 0 0) [] := .inl ⟨rfl, none, 0, rfl⟩

theorem reads_owns {w : World} {base e : Nat} {v : Value} {n : Nat} {xs : List Int} (h : w.ownsRow base e 1 v n (xs.map (Value.int .i64))) : Reads w v xs := by
  have hl := h.1
  simp at hl
  rcases h.2 with ⟨hv, hn⟩ | ⟨g, cap, cur, hv, hb, hg, hnc, hcm, hcs, htake⟩
  · have : xs = [] := List.length_eq_zero_iff.1 (by omega)
    exact .inl ⟨this, none, 0, hv⟩
  · have hlt : g < w.heap.size := by
      have := (Array.getElem?_eq_some_iff.1 hg).1
      exact this
    refine .inr ⟨g, 0, cap, by rw [hv, hl], hlt, fun i hi => ?_⟩
    have h' := h
    rw [hv] at h'
    rw [Nat.zero_add, h'.cellAt i (by omega)]
    simp [List.getD, hi]

theorem reads_lit (w : World) (e : Nat) (cs : Array Value) (xs : List Int) (hs : cs.toList = xs.map (Value.int .i64)) (hm : xs.length ≤ maxLen) : Reads (w.alloc (.cells cs e)) (.slice (some ⟨w.heap.size, 0, none⟩) xs.length xs.length) xs := by
  have h := World.ownsRow_lit (base := 0) (e := e) (size := 1) w cs xs.length (Nat.zero_le _) hm (by rw [← Array.length_toList, hs]; simp)
  rw [hs] at h
  exact reads_owns h

theorem hide {p : Prop} (h : p) : Hid p := h
theorem unhide {p : Prop} (h : Hid p) : p := h

/-- Nothing has turned but the tape's place. -/
def Still (w w' : World) : Prop := ∀ B, Below B w w'
theorem Still.refl (w : World) : Still w w := fun _ => Below.refl _ _
theorem Still.reads {w w' : World} (h : Still w w') {v : Value} {xs : List Int} (r : Reads w v xs) : Reads w' v xs := r.below (h _)

end Go.Proofs.YtmnmpfcfdopjnaaGreatDoor

/- What is allowed, as bits of a number. -/
namespace Go.Proofs.YtmnmpfcfdopjnaaGreatDoor
open Go.RowKit

/-- Whether a number has a bit. -/
def hasB (a b : Int) : Bool := decide (a % 64 / b % 2 = 1)

theorem bitN (a : Int) (i : Nat) : (BitVec.ofInt 64 a).getLsbD i = decide ((a % 18446744073709551616).toNat / 2 ^ i % 2 = 1) := by
  rw [← BitVec.testBit_toNat, BitVec.toNat_ofInt, Nat.testBit_eq_decide_div_mod_eq]
  rfl
theorem wrap_small (n : Nat) (h : n < 9223372036854775808) : IntKind.i64.wrap (n : Int) = (n : Int) := by
  rw [IntKind.wrap_i64]; omega
theorem and_pow (a b : Int) (i : Nat) (hb : BitVec.ofInt 64 b = BitVec.twoPow 64 i) (hn : ((BitVec.twoPow 64 i).toNat : Int) = b) (hs : (BitVec.twoPow 64 i).toNat < 9223372036854775808)
    (hh : decide ((a % 18446744073709551616).toNat / 2 ^ i % 2 = 1) = hasB a b) : bits .and .i64 a b = if hasB a b = true then b else 0 := by
  unfold bits
  show IntKind.i64.wrap ((BitVec.ofInt 64 a &&& BitVec.ofInt 64 b).toNat : Int) = _
  rw [hb, BitVec.and_twoPow, bitN, hh]
  cases hasB a b
  · rfl
  · simp only [if_true]
    rw [wrap_small _ hs, hn]
theorem and_1 (a : Int) : bits .and .i64 a 1 = if hasB a 1 = true then 1 else 0 := and_pow a 1 0 (by decide) (by decide) (by decide) (by unfold hasB; congr 1; apply propext; simp; omega)
theorem and_2 (a : Int) : bits .and .i64 a 2 = if hasB a 2 = true then 2 else 0 := and_pow a 2 1 (by decide) (by decide) (by decide) (by unfold hasB; congr 1; apply propext; simp; omega)
theorem and_4 (a : Int) : bits .and .i64 a 4 = if hasB a 4 = true then 4 else 0 := and_pow a 4 2 (by decide) (by decide) (by decide) (by unfold hasB; congr 1; apply propext; simp; omega)
theorem and_8 (a : Int) : bits .and .i64 a 8 = if hasB a 8 = true then 8 else 0 := and_pow a 8 3 (by decide) (by decide) (by decide) (by unfold hasB; congr 1; apply propext; simp; omega)
theorem and_16 (a : Int) : bits .and .i64 a 16 = if hasB a 16 = true then 16 else 0 := and_pow a 16 4 (by decide) (by decide) (by decide) (by unfold hasB; congr 1; apply propext; simp; omega)
theorem and_32 (a : Int) : bits .and .i64 a 32 = if hasB a 32 = true then 32 else 0 := and_pow a 32 5 (by decide) (by decide) (by decide) (by unfold hasB; congr 1; apply propext; simp; omega)

/-- A bit that may be asked for. -/
def isBit (b : Int) : Prop := b = 1 ∨ b = 2 ∨ b = 4 ∨ b = 8 ∨ b = 16 ∨ b = 32
theorem and_ne (a b : Int) (h : isBit b) : (bits .and .i64 a b != 0) = hasB a b := by
  rcases h with rfl | rfl | rfl | rfl | rfl | rfl
  · rw [and_1]; cases hasB a 1 <;> rfl
  · rw [and_2]; cases hasB a 2 <;> rfl
  · rw [and_4]; cases hasB a 4 <;> rfl
  · rw [and_8]; cases hasB a 8 <;> rfl
  · rw [and_16]; cases hasB a 16 <;> rfl
  · rw [and_32]; cases hasB a 32 <;> rfl

theorem wrap_mod (n : Int) : IntKind.i64.wrap n % 64 = n % 64 := by
  rw [IntKind.wrap_i64]; omega
theorem or_has (a m b : Int) (h : isBit b) : hasB (bits .or .i64 a m) b = (hasB a b || hasB m b) := by
  have key : ∀ i : Nat, i < 6 → ((2 : Int) ^ i = b) → (∀ x : Int, decide ((x % 18446744073709551616).toNat / 2 ^ i % 2 = 1) = hasB x b) → hasB (bits .or .i64 a m) b = (hasB a b || hasB m b) := by
    intro i hi hb hx
    have e1 : bits .or .i64 a m % 64 = (((BitVec.ofInt 64 a ||| BitVec.ofInt 64 m).toNat : Nat) : Int) % 64 := by
      unfold bits
      exact wrap_mod _
    have e2 : hasB (bits .or .i64 a m) b = hasB (((BitVec.ofInt 64 a ||| BitVec.ofInt 64 m).toNat : Nat) : Int) b := by
      unfold hasB; rw [e1]
    rw [e2, ← hx, ← hx a, ← hx m, ← bitN, ← bitN, ← bitN]
    rw [BitVec.ofInt_natCast, BitVec.ofNat_toNat, BitVec.setWidth_eq, BitVec.getLsbD_or]
  rcases h with rfl | rfl | rfl | rfl | rfl | rfl
  · exact key 0 (by omega) rfl (fun x => by unfold hasB; congr 1; apply propext; simp; omega)
  · exact key 1 (by omega) rfl (fun x => by unfold hasB; congr 1; apply propext; simp; omega)
  · exact key 2 (by omega) rfl (fun x => by unfold hasB; congr 1; apply propext; simp; omega)
  · exact key 3 (by omega) rfl (fun x => by unfold hasB; congr 1; apply propext; simp; omega)
  · exact key 4 (by omega) rfl (fun x => by unfold hasB; congr 1; apply propext; simp; omega)
  · exact key 5 (by omega) rfl (fun x => by unfold hasB; congr 1; apply propext; simp; omega)

end Go.Proofs.YtmnmpfcfdopjnaaGreatDoor

/- Whether a size may be. -/
namespace Go.Proofs.YtmnmpfcfdopjnaaGreatDoor
open Go.RowKit

/-- A size as a value. -/
def lenA (k n : Int) : Value := .agg #[.int .i64 k, .int .i64 n]
/-- A size in a box. -/
def LenAt (w : World) (b : Nat) (k n : Int) : Prop := w.heap[b]? = some (.cells #[.int .i64 k, .int .i64 n] 23 (0, 0))
theorem LenAt.lt {w : World} {b : Nat} {k n : Int} (h : LenAt w b k n) : b < w.heap.size := (Array.getElem?_eq_some_iff.1 h).1
theorem LenAt.c0 {w : World} {b : Nat} {k n : Int} (h : LenAt w b k n) : w.cell? ⟨b, 0, none⟩ = some (.int .i64 k) := by simp [World.cell?, show w.heap[b]? = _ from h]
theorem LenAt.c1 {w : World} {b : Nat} {k n : Int} (h : LenAt w b k n) : w.cell? ⟨b, 1, none⟩ = some (.int .i64 n) := by simp [World.cell?, show w.heap[b]? = _ from h]
theorem LenAt.below {w w' : World} {B b : Nat} {k n : Int} (h : LenAt w b k n) (hb : Below B w w') (hB : b < B) : LenAt w' b k n := (hb.block b hB).trans h

set_option maxRecDepth 100000 in
set_option maxHeartbeats 1000000 in
theorem may_any (x a : Int) (b : Nat) (w : World) (hx : isBit x) (h : Boxed w b 3 (.int .i64 a)) :
    Calls Tryz.prog 16 #[.int .i64 x, .pointer (some ⟨b, 0, none⟩)] w fun e w' => e = .returned (.bool (hasB a x)) ∧ w' = w := by
  have c0 := h.cell
  have hn := and_ne a x hx
  have HN := hide hn
  clear hn hx h
  go_enter Tryz.func16, Tryz.ntmps16
  go_wp2
  go_ret
  refine ⟨?_, rfl⟩
  rw [← HN.out]
  rfl

/-- A number is within a limit. -/
def withinV (n lim : Int) (below : Bool) : Bool := decide (n ≤ lim) && (decide (0 ≤ n) || (below && decide (-lim ≤ n)))

set_option maxRecDepth 100000 in
set_option maxHeartbeats 1000000 in
theorem within_any (lim k n : Int) (below : Bool) (b : Nat) (w : World) (h : LenAt w b k n) (hl : 0 ≤ lim) (hl2 : lim ≤ 1000000000000) :
    Calls Tryz.prog 17 #[.int .i64 lim, .bool below, .pointer (some ⟨b, 0, none⟩)] w fun e w' => e = .returned (.bool (withinV n lim below)) ∧ w' = w := by
  have c1 := h.c1
  have hv : withinV n lim below = (decide (n ≤ lim) && (decide (0 ≤ n) || (below && decide (-lim ≤ n)))) := rfl
  have HV := hide hv
  clear hv h
  go_enter Tryz.func17, Tryz.ntmps17
  go_wp2
  all_goals (go_ret; refine ⟨?_, rfl⟩; rw [HV.out]; show Ending.returned (.bool _) = _; congr 2; simp_all; try omega)

/-- A size may be. -/
def goodV (k n a : Int) : Bool :=
  if k = 2 then withinV n 68719476736 (hasB a 2)
  else if k = 3 then hasB a 1 && withinV n 1073741824 (hasB a 2)
  else if k = 6 then hasB a 16 && withinV n 1073741824 false
  else if n = 0 then (if k = 1 then hasB a 4 else if k = 4 then hasB a 8 else if k = 5 then hasB a 8 else if k = 7 then hasB a 32 else false) else false

/-- The table of keywords. -/
def kwCells : Array Value := #[.int .i64 1, .int .i64 0, .int .i64 4, .string ⟨#[97, 117, 116, 111]⟩, .int .i64 4, .int .i64 0, .int .i64 8, .string ⟨#[109, 105, 110, 45, 99, 111, 110, 116, 101, 110, 116]⟩, .int .i64 5, .int .i64 0, .int .i64 8, .string ⟨#[109, 97, 120, 45, 99, 111, 110, 116, 101, 110, 116]⟩, .int .i64 7, .int .i64 0, .int .i64 32, .string ⟨#[110, 111, 110, 101]⟩]
/-- The table of keywords lies as its text says. -/
def KW (w : World) : Prop := w.var? Tryz.prog "parterre/value.keywords" = some kwCells
theorem kw_named : Tryz.prog.globalNamed "parterre/value.keywords" = some 0 := by kernel_rfl
theorem KW.below {w w' : World} (h : KW w) (hb : Below w.heap.size w w') : KW w' := by
  unfold KW World.var? at h ⊢
  rw [kw_named] at h ⊢
  simp only [Option.bind_some] at h ⊢
  have hlt : 0 < w.heap.size := by
    rcases Nat.lt_or_ge 0 w.heap.size with h' | h'
    · exact h'
    · rw [Array.getElem?_eq_none h'] at h; cases h
  rw [hb.block _ hlt]
  exact h
theorem KW.cell {w : World} (h : KW w) (i : Nat) : w.cell? ⟨0, i, none⟩ = kwCells[i]? := World.var?_cell kw_named h i
theorem KW.c0 {w : World} (h : KW w) : w.cell? ⟨0, 0, none⟩ = some (.int .i64 1) := h.cell 0
theorem KW.c1 {w : World} (h : KW w) : w.cell? ⟨0, 1, none⟩ = some (.int .i64 0) := h.cell 1
theorem KW.c2 {w : World} (h : KW w) : w.cell? ⟨0, 2, none⟩ = some (.int .i64 4) := h.cell 2
theorem KW.c3 {w : World} (h : KW w) : w.cell? ⟨0, 3, none⟩ = some (.string ⟨#[97, 117, 116, 111]⟩) := h.cell 3
theorem KW.c4 {w : World} (h : KW w) : w.cell? ⟨0, 4, none⟩ = some (.int .i64 4) := h.cell 4
theorem KW.c5 {w : World} (h : KW w) : w.cell? ⟨0, 5, none⟩ = some (.int .i64 0) := h.cell 5
theorem KW.c6 {w : World} (h : KW w) : w.cell? ⟨0, 6, none⟩ = some (.int .i64 8) := h.cell 6
theorem KW.c7 {w : World} (h : KW w) : w.cell? ⟨0, 7, none⟩ = some (.string ⟨#[109, 105, 110, 45, 99, 111, 110, 116, 101, 110, 116]⟩) := h.cell 7
theorem KW.c8 {w : World} (h : KW w) : w.cell? ⟨0, 8, none⟩ = some (.int .i64 5) := h.cell 8
theorem KW.c9 {w : World} (h : KW w) : w.cell? ⟨0, 9, none⟩ = some (.int .i64 0) := h.cell 9
theorem KW.c10 {w : World} (h : KW w) : w.cell? ⟨0, 10, none⟩ = some (.int .i64 8) := h.cell 10
theorem KW.c11 {w : World} (h : KW w) : w.cell? ⟨0, 11, none⟩ = some (.string ⟨#[109, 97, 120, 45, 99, 111, 110, 116, 101, 110, 116]⟩) := h.cell 11
theorem KW.c12 {w : World} (h : KW w) : w.cell? ⟨0, 12, none⟩ = some (.int .i64 7) := h.cell 12
theorem KW.c13 {w : World} (h : KW w) : w.cell? ⟨0, 13, none⟩ = some (.int .i64 0) := h.cell 13
theorem KW.c14 {w : World} (h : KW w) : w.cell? ⟨0, 14, none⟩ = some (.int .i64 32) := h.cell 14
theorem KW.c15 {w : World} (h : KW w) : w.cell? ⟨0, 15, none⟩ = some (.string ⟨#[110, 111, 110, 101]⟩) := h.cell 15

/-- What Good begins with. -/
def gw (w : World) (k n a : Int) : World := (w.alloc (.cells #[.int .i64 k, .int .i64 n] 23)).alloc (.cells #[.int .i64 a] 3)
theorem gw_len (w : World) (k n a : Int) : LenAt (gw w k n a) w.heap.size k n := by
  have h := heap_alloc_new w (.cells #[.int .i64 k, .int .i64 n] 23)
  have hb := (Below.refl (w.alloc (.cells #[.int .i64 k, .int .i64 n] 23)).heap.size _).alloc (Nat.le_refl _) (.cells #[.int .i64 a] 3)
  exact (hb.block _ (by simp)).trans h
theorem gw_box (w : World) (k n a : Int) : Boxed (gw w k n a) (w.heap.size + 1) 3 (.int .i64 a) := by
  have h := Boxed.new (w.alloc (.cells #[.int .i64 k, .int .i64 n] 23)) 3 (.int .i64 a)
  simpa [gw] using h
theorem gw_below (w : World) (k n a : Int) : Below w.heap.size w (gw w k n a) := ((Below.refl _ w).alloc (Nat.le_refl _) _).alloc (by simp) _

set_option maxRecDepth 100000 in
set_option maxHeartbeats 4000000 in
theorem good_px (n a : Int) (w : World) :
    Calls Tryz.prog 7 #[lenA 2 n, .int .i64 a] w fun e w' => e = .returned (.bool (goodV 2 n a)) ∧ Below w.heap.size w w' := by
  have hL := gw_len w 2 n a
  have hX := gw_box w 2 n a
  have hB := gw_below w 2 n a
  unfold gw at hL hX hB
  have c1 := may_any 2 a _ _ (by unfold isBit; omega) hX
  have c2 := within_any 68719476736 2 n (hasB a 2) _ _ hL (by omega) (by omega)
  have C1 := hide c1
  have C2 := hide c2
  clear c1 c2 hL hX
  unfold lenA
  go_enter Tryz.func7, Tryz.ntmps7
  go_wp2_with fail
  refine Calls.mono C1.out ?_
  rintro e w1 ⟨rfl, rfl⟩
  go_wp2_with fail
  refine Calls.mono C2.out ?_
  rintro e w1 ⟨rfl, rfl⟩
  go_wp2_with fail
  go_ret
  exact ⟨rfl, hB⟩

set_option maxRecDepth 100000 in
set_option maxHeartbeats 4000000 in
theorem good_pct (n a : Int) (w : World) :
    Calls Tryz.prog 7 #[lenA 3 n, .int .i64 a] w fun e w' => e = .returned (.bool (goodV 3 n a)) ∧ Below w.heap.size w w' := by
  have hL := gw_len w 3 n a
  have hX := gw_box w 3 n a
  have hB := gw_below w 3 n a
  unfold gw at hL hX hB
  have c0 := may_any 1 a _ _ (by unfold isBit; omega) hX
  have c1 := may_any 2 a _ _ (by unfold isBit; omega) hX
  have c2 := within_any 1073741824 3 n (hasB a 2) _ _ hL (by omega) (by omega)
  have hv : goodV 3 n a = (hasB a 1 && withinV n 1073741824 (hasB a 2)) := rfl
  rw [hv]
  cases h1 : hasB a 1
  · rw [h1] at c0
    have C0 := hide c0
    clear c0 c1 c2 hL hX hv h1
    unfold lenA
    go_enter Tryz.func7, Tryz.ntmps7
    go_wp2_with fail
    refine Calls.mono C0.out ?_
    rintro e w1 ⟨rfl, rfl⟩
    go_wp2_with fail
    go_ret
    exact ⟨rfl, hB⟩
  · rw [h1] at c0
    have C0 := hide c0
    have C1 := hide c1
    have C2 := hide c2
    clear c0 c1 c2 hL hX hv h1
    unfold lenA
    go_enter Tryz.func7, Tryz.ntmps7
    go_wp2_with fail
    refine Calls.mono C0.out ?_
    rintro e w1 ⟨rfl, rfl⟩
    go_wp2_with fail
    refine Calls.mono C1.out ?_
    rintro e w1 ⟨rfl, rfl⟩
    go_wp2_with fail
    refine Calls.mono C2.out ?_
    rintro e w1 ⟨rfl, rfl⟩
    go_wp2_with fail
    go_ret
    exact ⟨rfl, hB⟩

set_option maxRecDepth 100000 in
set_option maxHeartbeats 4000000 in
theorem good_fr (n a : Int) (w : World) :
    Calls Tryz.prog 7 #[lenA 6 n, .int .i64 a] w fun e w' => e = .returned (.bool (goodV 6 n a)) ∧ Below w.heap.size w w' := by
  have hL := gw_len w 6 n a
  have hX := gw_box w 6 n a
  have hB := gw_below w 6 n a
  unfold gw at hL hX hB
  have c0 := may_any 16 a _ _ (by unfold isBit; omega) hX
  have c2 := within_any 1073741824 6 n false _ _ hL (by omega) (by omega)
  have hv : goodV 6 n a = (hasB a 16 && withinV n 1073741824 false) := rfl
  rw [hv]
  cases h1 : hasB a 16
  · rw [h1] at c0
    have C0 := hide c0
    clear c0 c2 hL hX hv h1
    unfold lenA
    go_enter Tryz.func7, Tryz.ntmps7
    go_wp2_with fail
    refine Calls.mono C0.out ?_
    rintro e w1 ⟨rfl, rfl⟩
    go_wp2_with fail
    go_ret
    exact ⟨rfl, hB⟩
  · rw [h1] at c0
    have C0 := hide c0
    have C2 := hide c2
    clear c0 c2 hL hX hv h1
    unfold lenA
    go_enter Tryz.func7, Tryz.ntmps7
    go_wp2_with fail
    refine Calls.mono C0.out ?_
    rintro e w1 ⟨rfl, rfl⟩
    go_wp2_with fail
    refine Calls.mono C2.out ?_
    rintro e w1 ⟨rfl, rfl⟩
    go_wp2_with fail
    go_ret
    exact ⟨rfl, hB⟩

end Go.Proofs.YtmnmpfcfdopjnaaGreatDoor

/- Whether a size without a number may be. -/
namespace Go.Proofs.YtmnmpfcfdopjnaaGreatDoor
open Go.RowKit

theorem eqk (x a : Int) : (x = a ∧ (x == a) = true) ∨ (¬ x = a ∧ (x == a) = false) := by
  by_cases h : x = a
  · exact .inl ⟨h, by simp [h]⟩
  · exact .inr ⟨h, by simp [h]⟩

set_option maxRecDepth 100000 in
theorem kw_idx0 (w : World) : Sem.run Tryz.prog (Instr.index 45 (.agg #[.int .i64 1, .int .i64 0, .int .i64 4, .string ⟨#[97, 117, 116, 111]⟩, .int .i64 4, .int .i64 0, .int .i64 8, .string ⟨#[109, 105, 110, 45, 99, 111, 110, 116, 101, 110, 116]⟩, .int .i64 5, .int .i64 0, .int .i64 8, .string ⟨#[109, 97, 120, 45, 99, 111, 110, 116, 101, 110, 116]⟩, .int .i64 7, .int .i64 0, .int .i64 32, .string ⟨#[110, 111, 110, 101]⟩]) (.int .i64 0)) w = .ok (.agg #[.int .i64 1, .int .i64 0, .int .i64 4, .string ⟨#[97, 117, 116, 111]⟩]) w := rfl
set_option maxRecDepth 100000 in
theorem kw_idx1 (w : World) : Sem.run Tryz.prog (Instr.index 45 (.agg #[.int .i64 1, .int .i64 0, .int .i64 4, .string ⟨#[97, 117, 116, 111]⟩, .int .i64 4, .int .i64 0, .int .i64 8, .string ⟨#[109, 105, 110, 45, 99, 111, 110, 116, 101, 110, 116]⟩, .int .i64 5, .int .i64 0, .int .i64 8, .string ⟨#[109, 97, 120, 45, 99, 111, 110, 116, 101, 110, 116]⟩, .int .i64 7, .int .i64 0, .int .i64 32, .string ⟨#[110, 111, 110, 101]⟩]) (.int .i64 1)) w = .ok (.agg #[.int .i64 4, .int .i64 0, .int .i64 8, .string ⟨#[109, 105, 110, 45, 99, 111, 110, 116, 101, 110, 116]⟩]) w := rfl
set_option maxRecDepth 100000 in
theorem kw_idx2 (w : World) : Sem.run Tryz.prog (Instr.index 45 (.agg #[.int .i64 1, .int .i64 0, .int .i64 4, .string ⟨#[97, 117, 116, 111]⟩, .int .i64 4, .int .i64 0, .int .i64 8, .string ⟨#[109, 105, 110, 45, 99, 111, 110, 116, 101, 110, 116]⟩, .int .i64 5, .int .i64 0, .int .i64 8, .string ⟨#[109, 97, 120, 45, 99, 111, 110, 116, 101, 110, 116]⟩, .int .i64 7, .int .i64 0, .int .i64 32, .string ⟨#[110, 111, 110, 101]⟩]) (.int .i64 2)) w = .ok (.agg #[.int .i64 5, .int .i64 0, .int .i64 8, .string ⟨#[109, 97, 120, 45, 99, 111, 110, 116, 101, 110, 116]⟩]) w := rfl
set_option maxRecDepth 100000 in
theorem kw_idx3 (w : World) : Sem.run Tryz.prog (Instr.index 45 (.agg #[.int .i64 1, .int .i64 0, .int .i64 4, .string ⟨#[97, 117, 116, 111]⟩, .int .i64 4, .int .i64 0, .int .i64 8, .string ⟨#[109, 105, 110, 45, 99, 111, 110, 116, 101, 110, 116]⟩, .int .i64 5, .int .i64 0, .int .i64 8, .string ⟨#[109, 97, 120, 45, 99, 111, 110, 116, 101, 110, 116]⟩, .int .i64 7, .int .i64 0, .int .i64 32, .string ⟨#[110, 111, 110, 101]⟩]) (.int .i64 3)) w = .ok (.agg #[.int .i64 7, .int .i64 0, .int .i64 32, .string ⟨#[110, 111, 110, 101]⟩]) w := rfl

theorem LenAt.alloc {w : World} {b : Nat} {k n : Int} (h : LenAt w b k n) (o : Obj) : LenAt (w.alloc o) b k n := h.below ((Below.refl w.heap.size w).alloc (Nat.le_refl _) o) h.lt
theorem boxed_alloc {w : World} {b t : Nat} {v : Value} (h : Boxed w b t v) (o : Obj) : Boxed (w.alloc o) b t v := (((Below.refl w.heap.size w).alloc (Nat.le_refl _) o).block b h.lt).trans h

/-- No keyword's kind among the first j. -/
def kwMiss (k n : Int) (j : Nat) : Prop := ¬ n = 0 ∨ ((0 < j → ¬ k = 1) ∧ (1 < j → ¬ k = 4) ∧ (2 < j → ¬ k = 5) ∧ (3 < j → ¬ k = 7))

set_option maxRecDepth 100000 in
set_option maxHeartbeats 4000000 in
theorem good_kw (k n a : Int) (w : World) (hk : KW w) (h2 : ¬ k = 2) (h3 : ¬ k = 3) (h6 : ¬ k = 6) :
    Calls Tryz.prog 7 #[lenA k n, .int .i64 a] w fun e w' => e = .returned (.bool (goodV k n a)) ∧ Below w.heap.size w w' := by
  have hL := gw_len w k n a
  have hX := gw_box w k n a
  have hB := gw_below w k n a
  have hK := hk.below hB
  have e0 := hK.c0
  have e1 := hK.c1
  have e2 := hK.c2
  have e3 := hK.c3
  have e4 := hK.c4
  have e5 := hK.c5
  have e6 := hK.c6
  have e7 := hK.c7
  have e8 := hK.c8
  have e9 := hK.c9
  have e10 := hK.c10
  have e11 := hK.c11
  have e12 := hK.c12
  have e13 := hK.c13
  have e14 := hK.c14
  have e15 := hK.c15
  unfold gw at hL hX hB hK e0 e1 e2 e3 e4 e5 e6 e7 e8 e9 e10 e11 e12 e13 e14 e15
  have hb2 : (k == 2) = false := by simp [h2]
  have hb3 : (k == 3) = false := by simp [h3]
  have hb6 : (k == 6) = false := by simp [h6]
  have H2 := hide h2
  have H3 := hide h3
  have H6 := hide h6
  clear h2 h3 h6
  have HL := hide hL
  have HX := hide hX
  have HK := hide hK
  clear hL hX hK hk
  unfold lenA
  go_enter Tryz.func7, Tryz.ntmps7
  go_wp2_with fail
  clear e0 e1 e2 e3 e4 e5 e6 e7 e8 e9 e10 e11 e12 e13 e14 e15
  go_loopw [38] (fun i wr => ∃ j : Nat, j ≤ 4 ∧ i = .int .i64 (j : Int) ∧ Hid (LenAt wr w.heap.size k n) ∧ Hid (Boxed wr (w.heap.size + 1) 3 (.int .i64 a)) ∧ Hid (Below w.heap.size w wr) ∧ Hid (kwMiss k n j)) (fun i _ => (4 - intOf i).toNat)
  case atStart => exact ⟨0, by omega, by go_num, HL, HX, hide hB, hide (.inr ⟨fun h => by omega, fun h => by omega, fun h => by omega, fun h => by omega⟩)⟩
  case round =>
    clear HL HX HK hB
    obtain ⟨j, hj, rfl, HL, HX, HB, HM⟩ := hrel
    have l0 := (HL.out).c0
    have l1 := (HL.out).c1
    by_cases h4 : j = 4
    · subst h4
      have hv : goodV k n a = false := by
        unfold goodV
        rw [if_neg H2.out, if_neg H3.out, if_neg H6.out]
        split
        · rcases HM.out with h | ⟨a1, a2, a3, a4⟩
          · contradiction
          · rw [if_neg (a1 (by omega)), if_neg (a2 (by omega)), if_neg (a3 (by omega)), if_neg (a4 (by omega))]
        · rfl
      have HV := hide hv
      clear hv HM
      go_wp2_with fail
      go_ret
      exact ⟨by rw [HV.out]; rfl, HB.out⟩
    · have hB := HB.out
      obtain rfl | rfl | rfl | rfl : j = 0 ∨ j = 1 ∨ j = 2 ∨ j = 3 := by omega
      · have HL4 := (HL.out).alloc (.cells #[.int .i64 1, .int .i64 0, .int .i64 4, .string ⟨#[97, 117, 116, 111]⟩] 44)
        have HX4 := boxed_alloc HX.out (.cells #[.int .i64 1, .int .i64 0, .int .i64 4, .string ⟨#[97, 117, 116, 111]⟩] 44)
        have hB4 := hB.alloc hB.size (.cells #[.int .i64 1, .int .i64 0, .int .i64 4, .string ⟨#[97, 117, 116, 111]⟩] 44)
        have l0' := HL4.c0
        have l1' := HL4.c1
        have cm := may_any 4 a _ _ (by unfold isBit; omega) HX4
        have CM := hide cm
        have HL5 := hide HL4
        have HX5 := hide HX4
        have HB5 := hide hB4
        clear cm HL4 HX4 hB4 hB HL HX HB
        rcases eqk n 0 with ⟨h0, h0b⟩ | ⟨h0, h0b⟩
        · rcases eqk k 1 with ⟨h1, h1b⟩ | ⟨h1, h1b⟩
          · have hv : goodV k n a = hasB a 4 := by subst h1 h0; rfl
            have HV := hide hv
            clear hv HM h1 h0
            go_wp2_with fail
            rw [kw_idx0]
            go_wp2_with fail
            refine Calls.mono CM.out ?_
            rintro e w1 ⟨rfl, rfl⟩
            go_wp2_with fail
            go_ret
            exact ⟨by rw [HV.out]; rfl, HB5.out⟩
          · have HM2 : Hid (kwMiss k n (0 + 1)) := by
              rcases HM.out with h | ⟨a1, a2, a3, a4⟩
              · exact hide (.inl h)
              · exact hide (.inr ⟨fun h => h1, fun h => by omega, fun h => by omega, fun h => by omega⟩)
            clear HM CM h0 h0b h1
            go_wp2_with fail
            rw [kw_idx0]
            go_wp2_with fail
            go_round
            case rel => exact ⟨0 + 1, by omega, by go_num, HL5, HX5, HB5, HM2⟩
            case measure => simp [intOf]
        · have HM2 : Hid (kwMiss k n (0 + 1)) := hide (.inl h0)
          clear HM CM h0
          go_wp2_with fail
          rw [kw_idx0]
          go_wp2_with fail
          go_round
          case rel => exact ⟨0 + 1, by omega, by go_num, HL5, HX5, HB5, HM2⟩
          case measure => simp [intOf]
      · have HL4 := (HL.out).alloc (.cells #[.int .i64 4, .int .i64 0, .int .i64 8, .string ⟨#[109, 105, 110, 45, 99, 111, 110, 116, 101, 110, 116]⟩] 44)
        have HX4 := boxed_alloc HX.out (.cells #[.int .i64 4, .int .i64 0, .int .i64 8, .string ⟨#[109, 105, 110, 45, 99, 111, 110, 116, 101, 110, 116]⟩] 44)
        have hB4 := hB.alloc hB.size (.cells #[.int .i64 4, .int .i64 0, .int .i64 8, .string ⟨#[109, 105, 110, 45, 99, 111, 110, 116, 101, 110, 116]⟩] 44)
        have l0' := HL4.c0
        have l1' := HL4.c1
        have cm := may_any 8 a _ _ (by unfold isBit; omega) HX4
        have CM := hide cm
        have HL5 := hide HL4
        have HX5 := hide HX4
        have HB5 := hide hB4
        clear cm HL4 HX4 hB4 hB HL HX HB
        rcases eqk n 0 with ⟨h0, h0b⟩ | ⟨h0, h0b⟩
        · rcases eqk k 4 with ⟨h1, h1b⟩ | ⟨h1, h1b⟩
          · have hv : goodV k n a = hasB a 8 := by subst h1 h0; rfl
            have HV := hide hv
            clear hv HM h1 h0
            go_wp2_with fail
            rw [kw_idx1]
            go_wp2_with fail
            refine Calls.mono CM.out ?_
            rintro e w1 ⟨rfl, rfl⟩
            go_wp2_with fail
            go_ret
            exact ⟨by rw [HV.out]; rfl, HB5.out⟩
          · have HM2 : Hid (kwMiss k n (1 + 1)) := by
              rcases HM.out with h | ⟨a1, a2, a3, a4⟩
              · exact hide (.inl h)
              · exact hide (.inr ⟨fun h => a1 (by omega), fun h => h1, fun h => by omega, fun h => by omega⟩)
            clear HM CM h0 h0b h1
            go_wp2_with fail
            rw [kw_idx1]
            go_wp2_with fail
            go_round
            case rel => exact ⟨1 + 1, by omega, by go_num, HL5, HX5, HB5, HM2⟩
            case measure => simp [intOf]
        · have HM2 : Hid (kwMiss k n (1 + 1)) := hide (.inl h0)
          clear HM CM h0
          go_wp2_with fail
          rw [kw_idx1]
          go_wp2_with fail
          go_round
          case rel => exact ⟨1 + 1, by omega, by go_num, HL5, HX5, HB5, HM2⟩
          case measure => simp [intOf]
      · have HL4 := (HL.out).alloc (.cells #[.int .i64 5, .int .i64 0, .int .i64 8, .string ⟨#[109, 97, 120, 45, 99, 111, 110, 116, 101, 110, 116]⟩] 44)
        have HX4 := boxed_alloc HX.out (.cells #[.int .i64 5, .int .i64 0, .int .i64 8, .string ⟨#[109, 97, 120, 45, 99, 111, 110, 116, 101, 110, 116]⟩] 44)
        have hB4 := hB.alloc hB.size (.cells #[.int .i64 5, .int .i64 0, .int .i64 8, .string ⟨#[109, 97, 120, 45, 99, 111, 110, 116, 101, 110, 116]⟩] 44)
        have l0' := HL4.c0
        have l1' := HL4.c1
        have cm := may_any 8 a _ _ (by unfold isBit; omega) HX4
        have CM := hide cm
        have HL5 := hide HL4
        have HX5 := hide HX4
        have HB5 := hide hB4
        clear cm HL4 HX4 hB4 hB HL HX HB
        rcases eqk n 0 with ⟨h0, h0b⟩ | ⟨h0, h0b⟩
        · rcases eqk k 5 with ⟨h1, h1b⟩ | ⟨h1, h1b⟩
          · have hv : goodV k n a = hasB a 8 := by subst h1 h0; rfl
            have HV := hide hv
            clear hv HM h1 h0
            go_wp2_with fail
            rw [kw_idx2]
            go_wp2_with fail
            refine Calls.mono CM.out ?_
            rintro e w1 ⟨rfl, rfl⟩
            go_wp2_with fail
            go_ret
            exact ⟨by rw [HV.out]; rfl, HB5.out⟩
          · have HM2 : Hid (kwMiss k n (2 + 1)) := by
              rcases HM.out with h | ⟨a1, a2, a3, a4⟩
              · exact hide (.inl h)
              · exact hide (.inr ⟨fun h => a1 (by omega), fun h => a2 (by omega), fun h => h1, fun h => by omega⟩)
            clear HM CM h0 h0b h1
            go_wp2_with fail
            rw [kw_idx2]
            go_wp2_with fail
            go_round
            case rel => exact ⟨2 + 1, by omega, by go_num, HL5, HX5, HB5, HM2⟩
            case measure => simp [intOf]
        · have HM2 : Hid (kwMiss k n (2 + 1)) := hide (.inl h0)
          clear HM CM h0
          go_wp2_with fail
          rw [kw_idx2]
          go_wp2_with fail
          go_round
          case rel => exact ⟨2 + 1, by omega, by go_num, HL5, HX5, HB5, HM2⟩
          case measure => simp [intOf]
      · have HL4 := (HL.out).alloc (.cells #[.int .i64 7, .int .i64 0, .int .i64 32, .string ⟨#[110, 111, 110, 101]⟩] 44)
        have HX4 := boxed_alloc HX.out (.cells #[.int .i64 7, .int .i64 0, .int .i64 32, .string ⟨#[110, 111, 110, 101]⟩] 44)
        have hB4 := hB.alloc hB.size (.cells #[.int .i64 7, .int .i64 0, .int .i64 32, .string ⟨#[110, 111, 110, 101]⟩] 44)
        have l0' := HL4.c0
        have l1' := HL4.c1
        have cm := may_any 32 a _ _ (by unfold isBit; omega) HX4
        have CM := hide cm
        have HL5 := hide HL4
        have HX5 := hide HX4
        have HB5 := hide hB4
        clear cm HL4 HX4 hB4 hB HL HX HB
        rcases eqk n 0 with ⟨h0, h0b⟩ | ⟨h0, h0b⟩
        · rcases eqk k 7 with ⟨h1, h1b⟩ | ⟨h1, h1b⟩
          · have hv : goodV k n a = hasB a 32 := by subst h1 h0; rfl
            have HV := hide hv
            clear hv HM h1 h0
            go_wp2_with fail
            rw [kw_idx3]
            go_wp2_with fail
            refine Calls.mono CM.out ?_
            rintro e w1 ⟨rfl, rfl⟩
            go_wp2_with fail
            go_ret
            exact ⟨by rw [HV.out]; rfl, HB5.out⟩
          · have HM2 : Hid (kwMiss k n (3 + 1)) := by
              rcases HM.out with h | ⟨a1, a2, a3, a4⟩
              · exact hide (.inl h)
              · exact hide (.inr ⟨fun h => a1 (by omega), fun h => a2 (by omega), fun h => a3 (by omega), fun h => h1⟩)
            clear HM CM h0 h0b h1
            go_wp2_with fail
            rw [kw_idx3]
            go_wp2_with fail
            go_round
            case rel => exact ⟨3 + 1, by omega, by go_num, HL5, HX5, HB5, HM2⟩
            case measure => simp [intOf]
        · have HM2 : Hid (kwMiss k n (3 + 1)) := hide (.inl h0)
          clear HM CM h0
          go_wp2_with fail
          rw [kw_idx3]
          go_wp2_with fail
          go_round
          case rel => exact ⟨3 + 1, by omega, by go_num, HL5, HX5, HB5, HM2⟩
          case measure => simp [intOf]

theorem good_any (k n a : Int) (w : World) (hk : KW w) :
    Calls Tryz.prog 7 #[lenA k n, .int .i64 a] w fun e w' => e = .returned (.bool (goodV k n a)) ∧ Below w.heap.size w w' := by
  by_cases h2 : k = 2
  · subst h2; exact good_px n a w
  · by_cases h3 : k = 3
    · subst h3; exact good_pct n a w
    · by_cases h6 : k = 6
      · subst h6; exact good_fr n a w
      · exact good_kw k n a w hk h2 h3 h6

end Go.Proofs.YtmnmpfcfdopjnaaGreatDoor

/- A builder of the call's own, and what is written to it: at this program's text of the library. -/
namespace Go.Proofs.YtmnmpfcfdopjnaaGreatDoor
open Go.RowKit

theorem info_sb : (Tryz.prog.info? 133).map (·.size) = some 2 := by kernel_rfl
theorem info_u8 : (Tryz.prog.info? 5).map (fun i => (i.zero, i.size, i.bytes)) = some (some (.int .u8 0), 1, 1) := by kernel_rfl

set_option maxRecDepth 100000 in
set_option maxHeartbeats 1000000 in
theorem check_used (b : Nat) (w : World) (h0 : w.cell? ⟨b, 0, none⟩ = some (.pointer (some ⟨b, 0, none⟩))) :
    Calls Tryz.prog 128 #[.pointer (some ⟨b, 0, none⟩)] w fun e w' => e = .returned (.tuple #[]) ∧ w' = w := by
  obtain ⟨j, hj, _⟩ := Option.map_eq_some_iff.1 info_sb
  go_enter Tryz.func128, Tryz.ntmps128
  go_wp2
  rw [Lib.run_neq_ptr_same w _ Tryz.underlying131 hj]
  go_wp2
  go_end0
  exact ⟨rfl, rfl⟩

set_option maxRecDepth 100000 in
set_option maxHeartbeats 1000000 in
theorem check_fresh (b : Nat) (w : World) (h0 : w.cell? ⟨b, 0, none⟩ = some (.pointer none)) (hsh : w.shape? b = some (133, 2)) (hfz : w.frozen? ⟨b, 0, none⟩ = false) :
    Calls Tryz.prog 128 #[.pointer (some ⟨b, 0, none⟩)] w fun e w' => e = .returned (.tuple #[]) ∧ w' = w.setCell ⟨b, 0, none⟩ (.pointer (some ⟨b, 0, none⟩)) := by
  obtain ⟨j, hj, hjs⟩ := Option.map_eq_some_iff.1 info_sb
  go_enter Tryz.func128, Tryz.ntmps128
  go_wp2
  rw [Lib.run_to_unsafe w ⟨b, 0, none⟩ Tryz.underlying131 Tryz.underlying150 hj (by rw [hjs]; decide) hsh (Nat.zero_lt_succ 1)]
  simp only [Result.andThen]
  rw [Oper.upon_value]
  go_wp2
  rw [run_callFunc_extern Tryz.func136 (by kernel_rfl) (by kernel_rfl) (by kernel_rfl) (e := Extern.AbiNoEscape.same) (by kernel_rfl)]
  rw [Lib.run_noEscape]
  simp only [Result.andThen]
  rw [Oper.upon_value]
  go_wp2
  rw [Lib.run_from_unsafe w ⟨b, 0, none⟩ Tryz.underlying150 Tryz.underlying131 hj hsh (by kernel_rfl)]
  simp only [Result.andThen]
  rw [Oper.upon_value]
  go_wp2
  go_end0
  exact ⟨rfl, rfl⟩

theorem check_any (B b : Nat) (bs : List Value) (w : World) (h : Lib.IsBuilder 133 5 B b bs w) :
    Calls Tryz.prog 128 #[.pointer (some ⟨b, 0, none⟩)] w fun e w' => e = .returned (.tuple #[]) ∧ (Lib.BuilderAt 133 5 B b (.pointer (some ⟨b, 0, none⟩)) bs w' ∧ Below B w w') := by
  rcases h with h | h
  · refine (check_fresh b w h.cell0 h.shape h.frozen0).mono ?_
    rintro e w' ⟨rfl, rfl⟩
    exact ⟨rfl, h.used _, (Below.refl B w).setCell (p := ⟨b, 0, none⟩) h.1 _⟩
  · refine (check_used b w h.cell0).mono ?_
    rintro e w' ⟨rfl, rfl⟩
    exact ⟨rfl, h, Below.refl B _⟩

set_option maxRecDepth 100000 in
set_option maxHeartbeats 2000000 in
theorem writeStr_any (B b : Nat) (bs : List Value) (s : ByteArray) (w : World) (h : Lib.IsBuilder 133 5 B b bs w) (hlen : bs.length + s.size ≤ 140737488355328) (hBw : B ≤ w.heap.size) :
    Calls Tryz.prog 105 #[.pointer (some ⟨b, 0, none⟩), .string s] w fun e w' => e = .returned (.tuple #[.int .i64 s.size, .nilIface]) ∧ (Lib.IsBuilder 133 5 B b (bs ++ Lib.strCells s) w' ∧ Below B w w') := by
  obtain ⟨i0, hi, hz0, hz1, hz2⟩ := info_parts info_u8
  go_enter Tryz.func105, Tryz.ntmps105
  go_wp2_with (go_at_call 128; refine (check_any B b bs _ h).mono ?_)
  rintro e w1 ⟨rfl, h1, hb1⟩
  obtain ⟨hB, v, hbk, hown, hne⟩ := h1
  have c0 : w1.cell? ⟨b, 0, none⟩ = some (.pointer (some ⟨b, 0, none⟩)) := by rw [Lib.cell_of_heap hbk]; rfl
  have c1 : w1.cell? ⟨b, 1, none⟩ = some v := by rw [Lib.cell_of_heap hbk]; rfl
  go_wp2_with (at_builtin; refine Lib.wpList_append_own_string _ rfl _ _ 52 9 rfl B 5 i0 Tryz.underlying52 Tryz.underlying9 hi hz0 hz1 hz2 _ _ _ rfl hown s rfl ?c3 ?c4 ?c5 ?_)
  case c3 => unfold maxLen; omega
  case c4 => omega
  case c5 => have := hb1.size; omega
  intro v' w2 hown' hgrow _
  have hlt : b < w1.heap.size := by
    rcases Nat.lt_or_ge b w1.heap.size with h' | h'
    · exact h'
    · simp [Array.getElem?_eq_none h'] at hbk
  have hb2 : w2.heap[b]? = some (.cells #[.pointer (some ⟨b, 0, none⟩), v] 133 (0, 0)) := by
    rw [hgrow.block b hlt (fun e => hne e.symm)]
    exact hbk
  have d0 : w2.cell? ⟨b, 0, none⟩ = some (.pointer (some ⟨b, 0, none⟩)) := by rw [Lib.cell_of_heap hb2]; rfl
  have d1 : w2.cell? ⟨b, 1, none⟩ = some v := by rw [Lib.cell_of_heap hb2]; rfl
  have f1 : w2.frozen? ⟨b, 1, none⟩ = false := Lib.frozen_of_heap hb2 1
  obtain ⟨ao, n', cap, rfl⟩ : ∃ ao n' cap, v' = .slice ao n' cap := by
    rcases hown'.2 with ⟨hv, _⟩ | ⟨g, cap, cur, hv, _⟩
    · exact ⟨_, _, _, hv⟩
    · exact ⟨_, _, _, hv⟩
  go_wp2
  go_ret2
  refine ⟨rfl, ?_, ?_⟩
  · exact .inr (Lib.BuilderAt.put (T := 133) (e := 5) hB hb2 (bs' := bs ++ Lib.strCells s) (by simpa [Lib.strCells_length] using hown') (by decide))
  · exact (hb1.grown hgrow (by have := hb1.size; omega) (fun k hk => (hown.lt k hk).1)).setCell (p := ⟨b, 1, none⟩) hB _

end Go.Proofs.YtmnmpfcfdopjnaaGreatDoor

/- What a text is whose every byte is written by a closure, put together by a builder. -/
namespace Go.Proofs.YtmnmpfcfdopjnaaGreatDoor
open Go.RowKit

/-- What is written for the first n bytes. -/
def eb (g : Nat → ByteArray) : Nat → List UInt8
  | 0 => []
  | k + 1 => eb g k ++ (g k).data.toList
theorem eb_len {g : Nat → ByteArray} (h : ∀ k, (g k).size ≤ 8) : ∀ n, (eb g n).length ≤ 8 * n
  | 0 => Nat.le_refl _
  | n + 1 => by
    have := eb_len h n
    have := h n
    show (eb g n ++ (g n).data.toList).length ≤ _
    rw [List.length_append, show (g n).data.toList.length = (g n).size by simp]
    omega
theorem cells_app (l : List UInt8) (s : ByteArray) : Lib.byteCells l ++ Lib.strCells s = Lib.byteCells (l ++ s.data.toList) := by
  simp [Lib.byteCells, Lib.strCells]

/-- A builder of the call's own stays as it is while others call. -/
theorem builder_below {T e B b : Nat} {bs : List Value} {w w' : World} (h : Lib.IsBuilder T e B b bs w) (hb : Below w.heap.size w w') : Lib.IsBuilder T e B b bs w' := by
  have key : ∀ p, Lib.BuilderAt T e B b p bs w → Lib.BuilderAt T e B b p bs w' := by
    intro p h
    have hlt := h.lt
    obtain ⟨hB, v, hbk, hown, hne⟩ := h
    refine ⟨hB, v, (hb.block b hlt).trans hbk, ?_, hne⟩
    refine ⟨hown.1, ?_⟩
    rcases hown.2 with ⟨hv, hn⟩ | ⟨g, cap, cur, hv, hbg, hg, r⟩
    · exact .inl ⟨hv, hn⟩
    · have hgl : g < w.heap.size := (Array.getElem?_eq_some_iff.1 hg).1
      exact .inr ⟨g, cap, cur, hv, hbg, (hb.block g hgl).trans hg, r⟩
  rcases h with h | h
  · exact .inl (key _ h)
  · exact .inr (key _ h)

set_option maxRecDepth 100000 in
set_option maxHeartbeats 2000000 in
theorem eachByte_any (s : ByteArray) (F : Nat) (c : Value) (g : Nat → ByteArray) (w : World) (hs : s.size ≤ 100000) (hg : ∀ k, (g k).size ≤ 8)
    (eF : ∀ args w, (callFunc F args).run Tryz.prog w = .ok (.enter F args) w)
    (hc : ∀ (k : Nat) w', k < s.size → Below w.heap.size w w' → Calls Tryz.prog F #[.int .i64 (k : Int), c] w' fun e w'' => e = .returned (.string (g k)) ∧ Below w'.heap.size w' w'') :
    Calls Tryz.prog 72 #[.string s, .func (.func F) #[] #[c]] w fun e w' => e = .returned (.string ⟨(eb g s.size).toArray⟩) ∧ Below w.heap.size w w' := by
  have h0 : Lib.IsBuilder 133 5 w.heap.size w.heap.size (Lib.byteCells []) (w.alloc (.cells #[.pointer none, .slice none 0 0] 133)) := Lib.fresh_isBuilder _ _ w
  have b0 : Below w.heap.size w (w.alloc (.cells #[.pointer none, .slice none 0 0] 133)) := (Below.refl _ w).alloc (Nat.le_refl _) _
  have HC := hide hc
  have HG := hide hg
  clear hc hg
  go_enter Tryz.func72, Tryz.ntmps72
  go_wp2_with fail
  go_loopw [9] (fun i wr => ∃ k : Nat, k ≤ s.size ∧ i = .int .i64 (k : Int) ∧ Lib.IsBuilder 133 5 w.heap.size w.heap.size (Lib.byteCells (eb g k)) wr ∧ Below w.heap.size w wr) (fun i _ => ((s.size : Int) - intOf i).toNat)
  case atStart => exact ⟨0, Nat.zero_le _, by go_num, h0, b0⟩
  case round =>
    clear h0 b0
    obtain ⟨k, hk, rfl, hI, hB⟩ := hrel
    by_cases hlt : k < s.size
    · have hi : (k : Int) < (s.size : Int) := by omega
      have hl := eb_len HG.out k
      have hgk := HG.out k
      go_wp2_with fail
      refine (unhide HC k _ hlt hB).mono ?_
      rintro e w1 ⟨rfl, hb1⟩
      have hI1 : Lib.IsBuilder 133 5 w.heap.size w.heap.size (Lib.byteCells (eb g k)) w1 := builder_below hI hb1
      have hB1 := hB.trans (hb1.mono hB.size)
      go_wp2_with fail
      refine (writeStr_any w.heap.size w.heap.size _ (g k) _ hI1 (by rw [Lib.byteCells_length]; omega) hB1.size).mono ?_
      rintro e w2 ⟨rfl, hI2, hb2⟩
      rw [cells_app] at hI2
      have hB2 := hB1.trans hb2
      clear hI hI1 hb1 hb2 hB hB1
      go_wp2_with fail
      go_round
      case rel => exact ⟨k + 1, by omega, by go_num, hI2, hB2⟩
      case measure => simp [intOf]; omega
    · have hi : ¬ (k : Int) < (s.size : Int) := by omega
      obtain rfl : k = s.size := by omega
      go_wp2_with fail
      refine (Tryz.Builder_String_any w.heap.size w.heap.size (eb g s.size) _ hI hB.size).mono ?_
      rintro e w1 ⟨rfl, hb1⟩
      have hB1 := hB.trans hb1
      clear hI hb1 hB
      go_wp2_with fail
      go_ret
      exact ⟨rfl, hB1⟩

end Go.Proofs.YtmnmpfcfdopjnaaGreatDoor

/- A byte's number to the base 16, as the library writes it. -/
namespace Go.Proofs.YtmnmpfcfdopjnaaGreatDoor
open Go.RowKit

/-- The cell of the library's table that is read for 16. -/
def TZ (w : World) : Prop := w.cell? ⟨8, 15, none⟩ = some (.int .u8 4)
theorem TZ.below {w w' : World} (h : TZ w) (hb : Below w.heap.size w w') : TZ w' := by
  have hl : 8 < w.heap.size := World.block_lt_of_cell? _ _ h
  exact (hb.cell hl).trans h

set_option maxRecDepth 100000 in
set_option maxHeartbeats 1000000 in
theorem tz_16 (w : World) (h : TZ w) : Calls Tryz.prog 132 #[.int .u64 16] w fun e w' => e = .returned (.int .i64 4) ∧ w' = w := by
  have h' : w.cell? ⟨8, 15, none⟩ = some (.int .u8 4) := h
  have e1 : bits BinOp.and IntKind.u64 16 (IntKind.u64.wrap (-16)) = 16 := by decide
  go_enter Tryz.func132, Tryz.ntmps132
  go_wp2
  go_ret
  exact ⟨rfl, rfl⟩

set_option maxRecDepth 100000 in
set_option maxHeartbeats 1000000 in
theorem tzu_16 (w : World) (h : TZ w) : Calls Tryz.prog 120 #[.int .u64 16] w fun e w' => e = .returned (.int .i64 4) ∧ w' = w := by
  go_enter Tryz.func120, Tryz.ntmps120
  go_wp2_with fail
  refine (tz_16 _ h).mono ?_
  rintro e w1 ⟨rfl, rfl⟩
  go_wp2_with fail
  go_ret
  exact ⟨rfl, rfl⟩

set_option maxRecDepth 100000 in
set_option maxHeartbeats 1000000 in
theorem pow2_16 (w : World) : Calls Tryz.prog 119 #[.int .i64 16] w fun e w' => e = .returned (.bool true) ∧ w' = w := by
  have e1 : bits BinOp.and IntKind.i64 16 15 = 0 := by decide
  go_enter Tryz.func119, Tryz.ntmps119
  go_wp2_with fail
  go_ret
  exact ⟨rfl, rfl⟩

theorem ba_ext' {a b : ByteArray} (h : a.data.toList = b.data.toList) : a = b := by
  obtain ⟨⟨x⟩⟩ := a
  obtain ⟨⟨y⟩⟩ := b
  simp at h
  subst h
  rfl
/-- A digit to the base 16. -/
def hx (d : Nat) : UInt8 := if d < 10 then UInt8.ofNat (48 + d) else UInt8.ofNat (87 + d)
/-- A byte's number to the base 16. -/
def hexs (c : Nat) : List UInt8 := if c < 16 then [hx c] else [hx (c / 16), hx (c % 16)]
/-- The library's digits. -/
def DIG : ByteArray := ⟨#[48, 49, 50, 51, 52, 53, 54, 55, 56, 57, 97, 98, 99, 100, 101, 102, 103, 104, 105, 106, 107, 108, 109, 110, 111, 112, 113, 114, 115, 116, 117, 118, 119, 120, 121, 122]⟩
set_option maxRecDepth 100000 in
theorem dig_at (d : Nat) (h : d < 16) (w : World) : Sem.run Tryz.prog (Instr.index 9 (.string ⟨#[48, 49, 50, 51, 52, 53, 54, 55, 56, 57, 97, 98, 99, 100, 101, 102, 103, 104, 105, 106, 107, 108, 109, 110, 111, 112, 113, 114, 115, 116, 117, 118, 119, 120, 121, 122]⟩) (.int .u64 (d : Int))) w = .ok (.int .u8 ((hx d).toNat : Int)) w := by
  obtain rfl | rfl | rfl | rfl | rfl | rfl | rfl | rfl | rfl | rfl | rfl | rfl | rfl | rfl | rfl | rfl : d = 0 ∨ d = 1 ∨ d = 2 ∨ d = 3 ∨ d = 4 ∨ d = 5 ∨ d = 6 ∨ d = 7 ∨ d = 8 ∨ d = 9 ∨ d = 10 ∨ d = 11 ∨ d = 12 ∨ d = 13 ∨ d = 14 ∨ d = 15 := by omega
  all_goals rfl
theorem u64_low (c : Nat) (hc : c < 256) : bits .and .u64 (c : Int) 15 = ((c % 16 : Nat) : Int) := by
  have h := bits_and_u64_nat c 15 (by omega) (by omega)
  rw [show (15 : Nat) = 2 ^ 4 - 1 from rfl, Nat.and_two_pow_sub_one_eq_mod] at h
  exact h
theorem nums_one (a : UInt8) : strOfNums [(a.toNat : Int)] = ⟨[a].toArray⟩ := by
  have h : UInt8.ofNat ((a.toNat : Int)).toNat = a := by simp
  show (⟨#[UInt8.ofNat ((a.toNat : Int)).toNat]⟩ : ByteArray) = _
  rw [h]
theorem nums_two (a b : UInt8) : strOfNums [(a.toNat : Int), (b.toNat : Int)] = ⟨[a, b].toArray⟩ := by
  have h : UInt8.ofNat ((a.toNat : Int)).toNat = a := by simp
  have k : UInt8.ofNat ((b.toNat : Int)).toNat = b := by simp
  show (⟨#[UInt8.ofNat ((a.toNat : Int)).toNat, UInt8.ofNat ((b.toNat : Int)).toNat]⟩ : ByteArray) = _
  rw [h, k]
theorem cell_put {w : World} {b i : Nat} {cs : Array Value} {T : TypeId} (v : Value) (h : w.heap[b]? = some (.cells cs T (0, 0))) : (w.setCell ⟨b, i, none⟩ v).heap[b]? = some (.cells (cs.set! i v) T (0, 0)) := by
  simp [World.setCell, Array.getElem?_modify, h]

set_option maxRecDepth 100000 in
set_option maxHeartbeats 2000000 in
theorem bits_16 (c : Nat) (hc : c < 256) (w : World) (h : TZ w) :
    Calls Tryz.prog 93 #[.slice none 0 0, .int .u64 (c : Int), .int .i64 16, .bool false, .bool false] w fun e w' => e = .returned (.tuple #[.slice none 0 0, .string ⟨(hexs c).toArray⟩]) ∧ Below w.heap.size w w' := by
  go_enter Tryz.func93, Tryz.ntmps93
  go_wp2_with fail
  refine (pow2_16 _).mono ?_
  rintro e w1 ⟨rfl, rfl⟩
  go_wp2_with fail
  refine (tzu_16 _ (h.below ((Below.refl _ w).alloc (Nat.le_refl _) _))).mono ?_
  rintro e w1 ⟨rfl, rfl⟩
  obtain ⟨d, hd⟩ : ∃ d, d = c % 16 := ⟨_, rfl⟩
  obtain ⟨q, hq⟩ : ∃ q, q = c / 16 := ⟨_, rfl⟩
  have hand := u64_low c hc
  rw [← hd] at hand
  have hdq : (c : Int) / 16 = (q : Int) := by omega
  have hq16 : q < 16 := by omega
  have HD := hide hd
  have HQ := hide hq
  have dd := dig_at d (by omega)
  have dq := dig_at q (by omega)
  clear hd hq
  have hz : Tryz.zeroCells143.size = 65 := by kernel_rfl
  have hb0 : Below w.heap.size w (w.alloc (.cells Tryz.zeroCells143 143)) := (Below.refl _ w).alloc (Nat.le_refl _) _
  have hh0 : (w.alloc (.cells Tryz.zeroCells143 143)).heap[w.heap.size]? = some (.cells Tryz.zeroCells143 143 (0, 0)) := heap_alloc_new w _
  have hz64 : Tryz.zeroCells143[64]? = some (.int .u8 0) := by kernel_rfl
  have hz63 : Tryz.zeroCells143[63]? = some (.int .u8 0) := by kernel_rfl
  go_wp2_with fail
  generalize hw0 : w.alloc (.cells Tryz.zeroCells143 143) = w0 at *
  go_loopw [1, 13] (fun u i wr => (u = .int .u64 (c : Int) ∧ i = .int .i64 65 ∧ wr = w0) ∨ (16 ≤ c ∧ u = .int .u64 (q : Int) ∧ i = .int .i64 64 ∧ wr = w0.setCell ⟨w.heap.size, 64, none⟩ (.int .u8 ((hx d).toNat : Int)))) (fun u _ _ => (intOf u).toNat)
  case atStart => exact .inl ⟨rfl, rfl, rfl⟩
  case round =>
    rcases hrel with ⟨rfl, rfl, rfl⟩ | ⟨h16, rfl, rfl, rfl⟩
    · have hfz : wr.frozen? ⟨w.heap.size, 64, none⟩ = false := Lib.frozen_of_heap hh0 64
      have hcl : wr.cell? ⟨w.heap.size, 64, none⟩ = some (.int .u8 0) := by rw [Lib.cell_of_heap hh0]; exact hz64
      by_cases h16 : 16 ≤ c
      · have h16i : (16 : Int) ≤ (c : Int) := by omega
        go_wp2_with fail
        go_round
        case rel => exact .inr ⟨h16, rfl, rfl, trivial⟩
        case measure => simp [intOf]; omega
      · have h16i : ¬ (16 : Int) ≤ (c : Int) := by omega
        obtain rfl : d = c := by have := HD.out; omega
        clear HD HQ hdq hand hz64 hz63
        have hp := cell_put (i := 64) (.int .u8 ((hx d).toNat : Int)) hh0
        have hcv := run_convert_bytes_arg (P := Tryz.prog) (wr.setCell ⟨w.heap.size, 64, none⟩ (.int .u8 ((hx d).toNat : Int))) 52 5 Tryz.underlying52 Tryz.underlying5 w.heap.size 64 1 1 [((hx d).toNat : Int)] rfl (fun i hi => by
          obtain rfl : i = 0 := by omega
          rw [Lib.cell_of_heap hp]
          simp [hz]) 9 Tryz.underlying9
        have hB := hb0.setCell (p := ⟨w.heap.size, 64, none⟩) (Nat.le_refl _) (.int .u8 ((hx d).toNat : Int))
        go_wp2_with fail
        go_ret2
        exact ⟨by rw [nums_one]; unfold hexs; rw [if_pos (by omega)]; rfl, hB⟩
    · have h16i : ¬ (16 : Int) ≤ (q : Int) := by omega
      have hp0 := cell_put (i := 64) (.int .u8 ((hx d).toNat : Int)) hh0
      have hfz : (w0.setCell ⟨w.heap.size, 64, none⟩ (.int .u8 ((hx d).toNat : Int))).frozen? ⟨w.heap.size, 63, none⟩ = false := Lib.frozen_of_heap hp0 63
      have hcl : (w0.setCell ⟨w.heap.size, 64, none⟩ (.int .u8 ((hx d).toNat : Int))).cell? ⟨w.heap.size, 63, none⟩ = some (.int .u8 0) := by
        rw [Lib.cell_of_heap hp0]
        simp only [Array.set!_eq_setIfInBounds]
        rw [Array.getElem?_setIfInBounds_ne (by omega)]
        exact hz63
      have hp := cell_put (i := 63) (.int .u8 ((hx q).toNat : Int)) hp0
      have hB0 := hb0.setCell (p := ⟨w.heap.size, 64, none⟩) (Nat.le_refl _) (.int .u8 ((hx d).toNat : Int))
      generalize w0.setCell ⟨w.heap.size, 64, none⟩ (.int .u8 ((hx d).toNat : Int)) = w1 at *
      have hcv := run_convert_bytes_arg (P := Tryz.prog) (w1.setCell ⟨w.heap.size, 63, none⟩ (.int .u8 ((hx q).toNat : Int))) 52 5 Tryz.underlying52 Tryz.underlying5 w.heap.size 63 2 2 [((hx q).toNat : Int), ((hx d).toNat : Int)] rfl (fun i hi => by
        rw [Lib.cell_of_heap hp]
        obtain rfl | rfl : i = 0 ∨ i = 1 := by omega
        · simp [hz]
        · simp [hz]) 9 Tryz.underlying9
      have hB := hB0.setCell (p := ⟨w.heap.size, 63, none⟩) (Nat.le_refl _) (.int .u8 ((hx q).toNat : Int))
      have hx2 : hexs c = [hx q, hx d] := by unfold hexs; rw [if_neg (by omega), HQ.out, HD.out]
      have HX := hide hx2
      clear HD HQ hdq hand hz64 hz63 hx2 hp hp0 hh0 hb0 hB0
      go_wp2_with fail
      go_ret2
      exact ⟨by rw [nums_two, HX.out]; rfl, hB⟩

set_option maxRecDepth 100000 in
set_option maxHeartbeats 1000000 in
theorem fmti_16 (c : Nat) (hc : c < 256) (w : World) (h : TZ w) :
    Calls Tryz.prog 61 #[.int .i64 (c : Int), .int .i64 16] w fun e w' => e = .returned (.string ⟨(hexs c).toArray⟩) ∧ Below w.heap.size w w' := by
  have h0 : ¬ (c : Int) < 0 := by omega
  go_enter Tryz.func61, Tryz.ntmps61
  go_wp2_with fail
  refine (bits_16 c hc _ h).mono ?_
  rintro e w1 ⟨rfl, hb⟩
  go_wp2_with fail
  go_ret
  exact ⟨rfl, hb⟩

/-- An escape of a byte's number. -/
def numB (c : UInt8) : ByteArray := ⟨(92 :: (hexs c.toNat ++ [32])).toArray⟩
theorem hexs_len (c : Nat) : (hexs c).length ≤ 2 := by unfold hexs; split <;> simp
theorem numB_size (c : UInt8) : (numB c).size ≤ 4 := by
  have := hexs_len c.toNat
  show (92 :: (hexs c.toNat ++ [32])).toArray.size ≤ 4
  simp; omega

end Go.Proofs.YtmnmpfcfdopjnaaGreatDoor

/- The bytes of names, and what is written for each. -/
namespace Go.Proofs.YtmnmpfcfdopjnaaGreatDoor
open Go.RowKit

def letB (c : UInt8) : Bool := decide ((97 ≤ c.toNat ∧ c.toNat ≤ 122) ∨ (65 ≤ c.toNat ∧ c.toNat ≤ 90) ∨ c.toNat = 95 ∨ 128 ≤ c.toNat)
def dgB (c : UInt8) : Bool := decide (48 ≤ c.toNat ∧ c.toNat ≤ 57)
def ctlB (c : UInt8) : Bool := decide (c.toNat < 32 ∨ c.toNat = 127)
/-- The byte at a place. -/
def bt (s : ByteArray) (k : Nat) : UInt8 := s.data.toList.getD k 0
theorem bt_at {s : ByteArray} {k : Nat} (h : k < s.size) : bt s k = s[k] := by unfold bt; simp [List.getD, h]; rfl
def firB (s : ByteArray) (k : Nat) : Bool := decide (k = 0 ∨ (k = 1 ∧ (bt s 0).toNat = 45))
def zB (s : ByteArray) : Bool := decide (0 ≤ Lib.indexByte s.data.toList 0)
def txtB (s : ByteArray) (lim : Int) : Bool := decide ((s.size : Int) ≤ lim) && !zB s
def nameB (s : ByteArray) : Bool := decide (0 < s.size) && txtB s 64
def lowB (c : UInt8) : ByteArray := ⟨#[if 65 ≤ c.toNat ∧ c.toNat ≤ 90 then c + 32 else c]⟩
def oneB (c : UInt8) : ByteArray := ⟨#[c]⟩
def escB (c : UInt8) : ByteArray := ⟨#[92, c]⟩
def plainB (s : ByteArray) (k : Nat) : Bool := letB (bt s k) || decide ((bt s k).toNat = 45 ∧ 1 < s.size) || (dgB (bt s k) && !firB s k)
def wB (s : ByteArray) (k : Nat) : ByteArray := if plainB s k = true then oneB (bt s k) else if (dgB (bt s k) || ctlB (bt s k)) = true then numB (bt s k) else escB (bt s k)
def qB (s : ByteArray) (k : Nat) : ByteArray := if (bt s k).toNat = 34 ∨ (bt s k).toNat = 92 then escB (bt s k) else if ctlB (bt s k) = true then numB (bt s k) else oneB (bt s k)
theorem wB_size (s : ByteArray) (k : Nat) : (wB s k).size ≤ 8 := by
  have := numB_size (bt s k)
  unfold wB
  split
  · exact Nat.le_of_ble_eq_true rfl
  · split
    · omega
    · exact Nat.le_of_ble_eq_true rfl
theorem qB_size (s : ByteArray) (k : Nat) : (qB s k).size ≤ 8 := by
  have := numB_size (bt s k)
  unfold qB
  split
  · exact Nat.le_of_ble_eq_true rfl
  · split
    · omega
    · exact Nat.le_of_ble_eq_true rfl
theorem eqb (x a : Int) : (x = a ∧ (x == a) = true) ∨ (¬ x = a ∧ (x == a) = false) := by
  by_cases h : x = a
  · exact .inl ⟨h, by simp [h]⟩
  · exact .inr ⟨h, by rw [beq_eq_false_iff_ne]; exact h⟩
theorem ext_one {s : ByteArray} {k : Nat} (h : k < s.size) : s.extract k (k + 1) = oneB s[k] := by
  apply ba_ext'
  have h' : k < s.data.toList.length := by simpa using h
  simp only [ByteArray.data_extract, Array.toList_extract, List.extract, Nat.add_sub_cancel_left, oneB]
  rw [List.drop_eq_getElem_cons h']
  simp
  rfl

set_option maxRecDepth 100000 in
set_option maxHeartbeats 4000000 in
theorem letter_any (c : UInt8) (w : World) : Calls Tryz.prog 100 #[.int .u8 (c.toNat : Int)] w fun e w' => e = .returned (.bool (letB c)) ∧ w' = w := by
  have hlt := c.toNat_lt
  cases hb : letB c
  · have hp := of_decide_eq_false hb
    clear hb
    by_cases h1 : (97 : Int) ≤ (c.toNat : Int) <;> by_cases h2 : (c.toNat : Int) ≤ 122 <;> by_cases h3 : (65 : Int) ≤ (c.toNat : Int) <;> by_cases h4 : (c.toNat : Int) ≤ 90 <;> rcases eqb (c.toNat : Int) 95 with ⟨h5, h5b⟩ | ⟨h5, h5b⟩ <;> by_cases h6 : (128 : Int) ≤ (c.toNat : Int) <;>
    first
    | (exfalso; omega)
    | (clear hp hlt
       go_enter Tryz.func100, Tryz.ntmps100
       go_wp2_with fail
       go_ret
       exact ⟨rfl, rfl⟩)
  · have hp := of_decide_eq_true hb
    clear hb
    by_cases h1 : (97 : Int) ≤ (c.toNat : Int) <;> by_cases h2 : (c.toNat : Int) ≤ 122 <;> by_cases h3 : (65 : Int) ≤ (c.toNat : Int) <;> by_cases h4 : (c.toNat : Int) ≤ 90 <;> rcases eqb (c.toNat : Int) 95 with ⟨h5, h5b⟩ | ⟨h5, h5b⟩ <;> by_cases h6 : (128 : Int) ≤ (c.toNat : Int) <;>
    first
    | (exfalso; omega)
    | (clear hp hlt
       go_enter Tryz.func100, Tryz.ntmps100
       go_wp2_with fail
       go_ret
       exact ⟨rfl, rfl⟩)

end Go.Proofs.YtmnmpfcfdopjnaaGreatDoor

/- What Lower, Is, Name, Write and Quote answer. -/
namespace Go.Proofs.YtmnmpfcfdopjnaaGreatDoor
open Go.RowKit

set_option maxRecDepth 100000 in
theorem rune_low (n : Nat) (h0 : 97 ≤ n) (h1 : n ≤ 122) (w : World) : Sem.run Tryz.prog (convert 21 9 (.int .i32 (n : Int))) w = .ok (.string (oneB (UInt8.ofNat n))) w := by
  obtain ⟨i, hi⟩ : ∃ i, n = 97 + i := ⟨n - 97, by omega⟩
  subst hi
  have h : i < 26 := by omega
  obtain rfl | rfl | rfl | rfl | rfl | rfl | rfl | rfl | rfl | rfl | rfl | rfl | rfl | rfl | rfl | rfl | rfl | rfl | rfl | rfl | rfl | rfl | rfl | rfl | rfl | rfl : i = 0 ∨ i = 1 ∨ i = 2 ∨ i = 3 ∨ i = 4 ∨ i = 5 ∨ i = 6 ∨ i = 7 ∨ i = 8 ∨ i = 9 ∨ i = 10 ∨ i = 11 ∨ i = 12 ∨ i = 13 ∨ i = 14 ∨ i = 15 ∨ i = 16 ∨ i = 17 ∨ i = 18 ∨ i = 19 ∨ i = 20 ∨ i = 21 ∨ i = 22 ∨ i = 23 ∨ i = 24 ∨ i = 25 := by omega
  all_goals rfl
theorem low_in {c : UInt8} (h0 : 65 ≤ c.toNat) (h1 : c.toNat ≤ 90) : lowB c = oneB (UInt8.ofNat (c.toNat + 32)) := by
  unfold lowB oneB
  rw [if_pos ⟨h0, h1⟩, UInt8.ofNat_add, UInt8.ofNat_toNat]
  rfl
theorem low_out {c : UInt8} (h : ¬ (65 ≤ c.toNat ∧ c.toNat ≤ 90)) : lowB c = oneB c := by
  unfold lowB oneB
  rw [if_neg h]

set_option maxRecDepth 100000 in
theorem sl_one {s : ByteArray} {k : Nat} (h : k < s.size) (w : World) : Sem.run Tryz.prog (Instr.slice 9 (.string s) (some (.int .i64 (k : Int))) (some (.int .i64 ((k : Int) + 1))) none) w = .ok (.string (oneB s[k])) w := by
  rw [run_slice_string w 9 s .i64 .i64 (k : Int) ((k : Int) + 1) Tryz.underlying9 (by omega) (by omega) (by omega), ← ext_one h]
  congr 2

set_option maxRecDepth 100000 in
set_option maxHeartbeats 1000000 in
theorem lower1_any (s : ByteArray) (k b : Nat) (w : World) (hk : k < s.size) (hs : s.size ≤ 100000) (h0 : Boxed w b 9 (.string s)) :
    Calls Tryz.prog 73 #[.int .i64 (k : Int), .pointer (some ⟨b, 0, none⟩)] w fun e w' => e = .returned (.string (lowB (bt s k))) ∧ Below w.heap.size w w' := by
  have c0 := h0.cell
  rw [bt_at hk]
  have he := fun w => sl_one hk w
  have hki : (k : Int) < (s.size : Int) := by omega
  by_cases hr : 65 ≤ s[k].toNat ∧ s[k].toNat ≤ 90
  · have h1 : (65 : Int) ≤ (s[k].toNat : Int) := by omega
    have h2 : (s[k].toNat : Int) ≤ 90 := by omega
    have hlo := low_in hr.1 hr.2
    have hrn := rune_low (s[k].toNat + 32) (by omega) (by omega)
    have hca : ((s[k].toNat + 32 : Nat) : Int) = (s[k].toNat : Int) - 65 + 97 := by omega
    rw [hca] at hrn
    have HLO := hide hlo
    clear hr hlo hca he
    go_enter Tryz.func73, Tryz.ntmps73
    go_wp2_with fail
    go_ret
    exact ⟨by rw [HLO.out]; rfl, Below.refl _ _⟩
  · have hlo := low_out hr
    have HLO := hide hlo
    clear hlo
    by_cases h1 : (65 : Int) ≤ (s[k].toNat : Int)
    · have h2 : ¬ (s[k].toNat : Int) ≤ 90 := by omega
      clear hr
      go_enter Tryz.func73, Tryz.ntmps73
      go_wp2_with fail
      go_ret
      exact ⟨by rw [HLO.out]; rfl, Below.refl _ _⟩
    · clear hr
      go_enter Tryz.func73, Tryz.ntmps73
      go_wp2_with fail
      go_ret
      exact ⟨by rw [HLO.out]; rfl, Below.refl _ _⟩

end Go.Proofs.YtmnmpfcfdopjnaaGreatDoor

/- What Lower, Is, Name, Write and Quote answer. -/
namespace Go.Proofs.YtmnmpfcfdopjnaaGreatDoor
open Go.RowKit

theorem boxed_below {w w' : World} {b t : Nat} {v : Value} {B : Nat} (h : Boxed w b t v) (hb : Below B w w') (hl : b < B) : Boxed w' b t v := (hb.block b hl).trans h
/-- A text in small letters. -/
def lowV (s : ByteArray) : ByteArray := ⟨(eb (fun k => lowB (bt s k)) s.size).toArray⟩
def writeV (s : ByteArray) : ByteArray := if nameB s = true then ⟨(eb (wB s) s.size).toArray⟩ else ⟨#[]⟩
def quoteV (s : ByteArray) : ByteArray := if txtB s 8192 = true then ⟨(34 :: (eb (qB s) s.size ++ [34])).toArray⟩ else ⟨#[]⟩
theorem low_size (c : UInt8) : (lowB c).size ≤ 8 := by unfold lowB; exact Nat.le_of_ble_eq_true rfl

set_option maxRecDepth 100000 in
set_option maxHeartbeats 1000000 in
theorem lower_any (s : ByteArray) (w : World) (hs : s.size ≤ 100000) :
    Calls Tryz.prog 53 #[.string s] w fun e w' => e = .returned (.string (lowV s)) ∧ Below w.heap.size w w' := by
  have hbx := Boxed.new w 9 (.string s)
  have hb0 : Below w.heap.size w (w.alloc (.cells #[.string s] 9)) := (Below.refl _ w).alloc (Nat.le_refl _) _
  have c0 := hbx.cell
  have ce := eachByte_any s 73 (.pointer (some ⟨w.heap.size, 0, none⟩)) (fun k => lowB (bt s k)) (w.alloc (.cells #[.string s] 9)) hs (fun k => low_size _) (enters_of Tryz.func73 (by kernel_rfl) rfl)
    (fun k w' hk hb => lower1_any s k w.heap.size w' hk hs (boxed_below hbx hb hbx.lt))
  have CE := hide ce
  clear ce hbx
  go_enter Tryz.func53, Tryz.ntmps53
  go_wp2_with fail
  refine (CE.out).mono ?_
  rintro e w1 ⟨rfl, hb1⟩
  have hB := hb0.trans (hb1.mono hb0.size)
  clear hb1 CE c0
  go_wp2_with fail
  go_ret
  exact ⟨rfl, hB⟩

end Go.Proofs.YtmnmpfcfdopjnaaGreatDoor

/- A word is asked. -/
namespace Go.Proofs.YtmnmpfcfdopjnaaGreatDoor
open Go.RowKit

/-- A word as a value. -/
def tkA (k at_ : Int) (tx nm : ByteArray) : Value := .agg #[.int .i64 k, .int .i64 at_, .string tx, .string nm]
/-- A word of a kind, and its text in small letters, lie in two boxes. -/
structure AskAt (w : World) (b1 b2 : Nat) (k : Int) (low : ByteArray) : Prop where
  c0 : w.cell? ⟨b1, 0, none⟩ = some (.int .i64 k)
  c2 : w.cell? ⟨b2, 0, none⟩ = some (.string low)
  l1 : b1 < w.heap.size
  l2 : b2 < w.heap.size
theorem AskAt.below {w w' : World} {b1 b2 : Nat} {k : Int} {low : ByteArray} (h : AskAt w b1 b2 k low) (hb : Below w.heap.size w w') : AskAt w' b1 b2 k low :=
  ⟨(hb.cell (p := ⟨b1, 0, none⟩) h.l1).trans h.c0, (hb.cell (p := ⟨b2, 0, none⟩) h.l2).trans h.c2, Nat.lt_of_lt_of_le h.l1 hb.size, Nat.lt_of_lt_of_le h.l2 hb.size⟩
/-- The closure that asks. -/
def askV (b1 b2 : Nat) : Value := .func (.func 54) #[] #[.pointer (some ⟨b1, 0, none⟩), .pointer (some ⟨b2, 0, none⟩)]

set_option maxRecDepth 100000 in
set_option maxHeartbeats 2000000 in
theorem asker_any (k at_ : Int) (tx nm : ByteArray) (w : World) (hs : tx.size ≤ 100000) :
    Calls Tryz.prog 36 #[tkA k at_ tx nm] w fun e w' => ∃ b1 b2, e = .returned (askV b1 b2) ∧ AskAt w' b1 b2 k (lowV tx) ∧ Below w.heap.size w w' := by
  have hb0 : Below w.heap.size w (w.alloc (.cells #[.int .i64 k, .int .i64 at_, .string tx, .string nm] 56)) := (Below.refl _ w).alloc (Nat.le_refl _) _
  have cl := lower_any tx (w.alloc (.cells #[.int .i64 k, .int .i64 at_, .string tx, .string nm] 56)) hs
  have CL := hide cl
  clear cl
  unfold tkA
  go_enter Tryz.func36, Tryz.ntmps36
  go_wp2_with fail
  refine Calls.mono CL.out ?_
  rintro e w1 ⟨rfl, hb1⟩
  have k0 : w1.cell? ⟨w.heap.size, 0, none⟩ = some (.int .i64 k) := (hb1.cell (p := ⟨w.heap.size, 0, none⟩) (by simp)).trans (by simp)
  have hlt : w.heap.size < w1.heap.size := Nat.lt_of_lt_of_le (by simp) hb1.size
  have hB := hb0.trans (hb1.mono hb0.size)
  have HB := hide hB
  have K0 := hide k0
  clear CL hb0 hb1 hB k0
  go_wp2_with fail
  go_ret
  refine ⟨w.heap.size, w1.heap.size, rfl, ⟨?_, ?_, ?_, ?_⟩, ?_⟩
  · exact (((Below.refl w1.heap.size w1).alloc (Nat.le_refl _) _).cell (p := ⟨w.heap.size, 0, none⟩) hlt).trans K0.out
  · simp
  · simp; omega
  · simp
  · exact (HB.out).alloc (HB.out).size _

/-- The texts of a literal slice. -/
def TxAt (w : World) (b : Nat) (zs : List ByteArray) : Prop := ∀ j, j < zs.length → w.cell? ⟨b, 0 + j, none⟩ = some (.string (zs.getD j ByteArray.empty))
theorem txAt_new (w : World) (t : Nat) (zs : List ByteArray) : TxAt (w.alloc (.cells (zs.map Value.string).toArray t)) w.heap.size zs := by
  intro j hj
  rw [Lib.cell_of_heap (heap_alloc_new w _)]
  simp [hj]

set_option maxRecDepth 100000 in
set_option maxHeartbeats 2000000 in
theorem ask_any (x k : Int) (b b1 b2 n : Nat) (zs : List ByteArray) (low : ByteArray) (w : World) (h : AskAt w b1 b2 k low) (ht : TxAt w b zs) (hn : n = zs.length) (hz : zs.length ≤ 1000) :
    Calls Tryz.prog 54 #[.int .i64 x, .slice (some ⟨b, 0, none⟩) n n, .pointer (some ⟨b1, 0, none⟩), .pointer (some ⟨b2, 0, none⟩)] w fun e w' => e = .returned (.bool (decide (k = x) && Lib.containsS zs low)) ∧ w' = w := by
  subst hn
  have c0 := h.c0
  have c2 := h.c2
  have cc := Tryz.slices_Contains_string b 0 zs.length zs.length zs low w (Nat.le_refl _) (by omega) ht
  rw [List.take_length] at cc
  have CC := hide cc
  clear cc h ht
  rcases eqk k x with ⟨h1, h1b⟩ | ⟨h1, h1b⟩
  · subst h1
    go_enter Tryz.func54, Tryz.ntmps54
    go_wp2_with fail
    refine Calls.mono CC.out ?_
    rintro e w1 ⟨rfl, rfl⟩
    go_wp2_with fail
    go_ret
    exact ⟨by simp, rfl⟩
  · have hd : decide (k = x) = false := by simp [h1]
    rw [hd]
    clear h1 hd CC
    go_enter Tryz.func54, Tryz.ntmps54
    go_wp2_with fail
    go_ret
    exact ⟨rfl, rfl⟩

end Go.Proofs.YtmnmpfcfdopjnaaGreatDoor

/- Words that mean something else in CSS. -/
namespace Go.Proofs.YtmnmpfcfdopjnaaGreatDoor
open Go.RowKit

def dimsF : List ByteArray := [⟨#[101, 109]⟩, ⟨#[114, 101, 109]⟩, ⟨#[101, 120]⟩, ⟨#[99, 104]⟩, ⟨#[118, 119]⟩, ⟨#[118, 104]⟩, ⟨#[118, 109, 105, 110]⟩, ⟨#[118, 109, 97, 120]⟩, ⟨#[99, 109]⟩, ⟨#[109, 109]⟩, ⟨#[113]⟩, ⟨#[105, 110]⟩, ⟨#[112, 99]⟩, ⟨#[112, 116]⟩]
def funcsF : List ByteArray := [⟨#[99, 97, 108, 99]⟩, ⟨#[109, 105, 110]⟩, ⟨#[109, 97, 120]⟩, ⟨#[99, 108, 97, 109, 112]⟩, ⟨#[101, 110, 118]⟩, ⟨#[118, 97, 114]⟩]
def identsF : List ByteArray := [⟨#[105, 110, 104, 101, 114, 105, 116]⟩, ⟨#[105, 110, 105, 116, 105, 97, 108]⟩, ⟨#[117, 110, 115, 101, 116]⟩, ⟨#[114, 101, 118, 101, 114, 116]⟩]
/-- A word that means something else in CSS. -/
def foreignB (k : Int) (low : ByteArray) : Bool := (decide (k = 5) && Lib.containsS dimsF low) || (decide (k = 2) && Lib.containsS funcsF low) || (decide (k = 1) && Lib.containsS identsF low)

theorem txAt_at (w : World) (t : Nat) (zs : List ByteArray) (b : Nat) (hb : b = w.heap.size) : TxAt (w.alloc (.cells (zs.map Value.string).toArray t)) b zs := by subst hb; exact txAt_new w t zs

set_option maxRecDepth 100000 in
set_option maxHeartbeats 4000000 in
theorem isForeign_any (k : Int) (b1 b2 : Nat) (low : ByteArray) (w : World) (h : AskAt w b1 b2 k low) :
    Calls Tryz.prog 37 #[askV b1 b2] w fun e w' => e = .returned (.bool (foreignB k low)) ∧ Below w.heap.size w w' := by
  have b1' : Below w.heap.size w (w.alloc (.cells #[.string ⟨#[101, 109]⟩, .string ⟨#[114, 101, 109]⟩, .string ⟨#[101, 120]⟩, .string ⟨#[99, 104]⟩, .string ⟨#[118, 119]⟩, .string ⟨#[118, 104]⟩, .string ⟨#[118, 109, 105, 110]⟩, .string ⟨#[118, 109, 97, 120]⟩, .string ⟨#[99, 109]⟩, .string ⟨#[109, 109]⟩, .string ⟨#[113]⟩, .string ⟨#[105, 110]⟩, .string ⟨#[112, 99]⟩, .string ⟨#[112, 116]⟩] 9)) := (Below.refl _ w).alloc (Nat.le_refl _) _
  have b2' := b1'.alloc b1'.size (.cells #[.string ⟨#[99, 97, 108, 99]⟩, .string ⟨#[109, 105, 110]⟩, .string ⟨#[109, 97, 120]⟩, .string ⟨#[99, 108, 97, 109, 112]⟩, .string ⟨#[101, 110, 118]⟩, .string ⟨#[118, 97, 114]⟩] 9)
  have b3' := b2'.alloc b2'.size (.cells #[.string ⟨#[105, 110, 104, 101, 114, 105, 116]⟩, .string ⟨#[105, 110, 105, 116, 105, 97, 108]⟩, .string ⟨#[117, 110, 115, 101, 116]⟩, .string ⟨#[114, 101, 118, 101, 114, 116]⟩] 9)
  have t1 : TxAt (w.alloc (.cells #[.string ⟨#[101, 109]⟩, .string ⟨#[114, 101, 109]⟩, .string ⟨#[101, 120]⟩, .string ⟨#[99, 104]⟩, .string ⟨#[118, 119]⟩, .string ⟨#[118, 104]⟩, .string ⟨#[118, 109, 105, 110]⟩, .string ⟨#[118, 109, 97, 120]⟩, .string ⟨#[99, 109]⟩, .string ⟨#[109, 109]⟩, .string ⟨#[113]⟩, .string ⟨#[105, 110]⟩, .string ⟨#[112, 99]⟩, .string ⟨#[112, 116]⟩] 9)) w.heap.size dimsF := txAt_new w 9 dimsF
  have t2 : TxAt ((w.alloc (.cells #[.string ⟨#[101, 109]⟩, .string ⟨#[114, 101, 109]⟩, .string ⟨#[101, 120]⟩, .string ⟨#[99, 104]⟩, .string ⟨#[118, 119]⟩, .string ⟨#[118, 104]⟩, .string ⟨#[118, 109, 105, 110]⟩, .string ⟨#[118, 109, 97, 120]⟩, .string ⟨#[99, 109]⟩, .string ⟨#[109, 109]⟩, .string ⟨#[113]⟩, .string ⟨#[105, 110]⟩, .string ⟨#[112, 99]⟩, .string ⟨#[112, 116]⟩] 9)).alloc (.cells #[.string ⟨#[99, 97, 108, 99]⟩, .string ⟨#[109, 105, 110]⟩, .string ⟨#[109, 97, 120]⟩, .string ⟨#[99, 108, 97, 109, 112]⟩, .string ⟨#[101, 110, 118]⟩, .string ⟨#[118, 97, 114]⟩] 9)) (w.heap.size + 1) funcsF := txAt_at _ 9 funcsF _ (by simp)
  have t3 : TxAt (((w.alloc (.cells #[.string ⟨#[101, 109]⟩, .string ⟨#[114, 101, 109]⟩, .string ⟨#[101, 120]⟩, .string ⟨#[99, 104]⟩, .string ⟨#[118, 119]⟩, .string ⟨#[118, 104]⟩, .string ⟨#[118, 109, 105, 110]⟩, .string ⟨#[118, 109, 97, 120]⟩, .string ⟨#[99, 109]⟩, .string ⟨#[109, 109]⟩, .string ⟨#[113]⟩, .string ⟨#[105, 110]⟩, .string ⟨#[112, 99]⟩, .string ⟨#[112, 116]⟩] 9)).alloc (.cells #[.string ⟨#[99, 97, 108, 99]⟩, .string ⟨#[109, 105, 110]⟩, .string ⟨#[109, 97, 120]⟩, .string ⟨#[99, 108, 97, 109, 112]⟩, .string ⟨#[101, 110, 118]⟩, .string ⟨#[118, 97, 114]⟩] 9)).alloc (.cells #[.string ⟨#[105, 110, 104, 101, 114, 105, 116]⟩, .string ⟨#[105, 110, 105, 116, 105, 97, 108]⟩, .string ⟨#[117, 110, 115, 101, 116]⟩, .string ⟨#[114, 101, 118, 101, 114, 116]⟩] 9)) (w.heap.size + 1 + 1) identsF := txAt_at _ 9 identsF _ (by simp)
  have c1 := ask_any 5 k w.heap.size b1 b2 14 dimsF low _ (h.below b1') t1 rfl (by decide)
  have c2 := ask_any 2 k (w.heap.size + 1) b1 b2 6 funcsF low _ (h.below b2') t2 rfl (by decide)
  have c3 := ask_any 1 k (w.heap.size + 1 + 1) b1 b2 4 identsF low _ (h.below b3') t3 rfl (by decide)
  unfold foreignB
  generalize (decide (k = 5) && Lib.containsS dimsF low) = A at *
  generalize (decide (k = 2) && Lib.containsS funcsF low) = B at *
  generalize (decide (k = 1) && Lib.containsS identsF low) = C at *
  have C1 := hide c1
  have C2 := hide c2
  have C3 := hide c3
  have HB1 := hide b1'
  have HB2 := hide b2'
  have HB3 := hide b3'
  clear b1' b2' b3' t1 t2 t3 c1 c2 c3 h
  unfold askV
  cases A <;> cases B <;> cases C <;> (
    go_enter Tryz.func37, Tryz.ntmps37
    go_wp2_with fail
    refine Calls.mono C1.out ?_
    rintro e w1 ⟨rfl, rfl⟩
    go_wp2_with fail
    try (refine Calls.mono C2.out ?_; rintro e w1 ⟨rfl, rfl⟩; go_wp2_with fail)
    try (refine Calls.mono C3.out ?_; rintro e w1 ⟨rfl, rfl⟩; go_wp2_with fail)
    go_ret
    exact ⟨rfl, by first | exact HB1.out | exact HB2.out | exact HB3.out⟩)

end Go.Proofs.YtmnmpfcfdopjnaaGreatDoor

/- What the closures of cut answer: digits, take and minus, over the place at which they stand. -/
namespace Go.Proofs.YtmnmpfcfdopjnaaGreatDoor
open Go.RowKit

/-- A digit. -/
def dg (c : UInt8) : Bool := decide (48 ≤ c.toNat ∧ c.toNat ≤ 57)
theorem dg_true {c : UInt8} (h : dg c = true) : (48 : Int) ≤ (c.toNat : Int) ∧ (c.toNat : Int) ≤ 57 := by simp [dg] at h; omega
theorem dg_false {c : UInt8} (h : dg c = false) : (c.toNat : Int) < 48 ∨ 57 < (c.toNat : Int) := by simp [dg] at h; omega

/-- How many digits stand at a place. -/
def run (s : ByteArray) (k : Nat) : Nat := ((s.data.toList.drop k).takeWhile dg).length
theorem drop_cons (s : ByteArray) (k : Nat) (h : k < s.size) : s.data.toList.drop k = s[k] :: s.data.toList.drop (k + 1) := by
  rw [List.drop_eq_getElem_cons (by simpa using h)]; rfl
theorem run_hit {s : ByteArray} {k : Nat} (h : k < s.size) (hd : dg s[k] = true) : run s k = run s (k + 1) + 1 := by
  unfold run; rw [drop_cons s k h]; simp [hd]
theorem run_miss {s : ByteArray} {k : Nat} (h : k < s.size) (hd : dg s[k] = false) : run s k = 0 := by
  unfold run; rw [drop_cons s k h]; simp [hd]
theorem run_end {s : ByteArray} {k : Nat} (h : s.size ≤ k) : run s k = 0 := by
  unfold run; rw [List.drop_eq_nil_of_le (by simpa using h)]; rfl
theorem run_le (s : ByteArray) (k : Nat) (h : k ≤ s.size) : k + run s k ≤ s.size := by
  unfold run
  have h1 := (List.takeWhile_prefix (l := s.data.toList.drop k) dg).length_le
  have h2 : (s.data.toList.drop k).length = s.size - k := by simp
  omega

/-- The number in a box. -/
def posAt (w : World) (b : Nat) : Nat := match w.cell? ⟨b, 0, none⟩ with
  | some (.int _ q) => q.toNat
  | _ => 0
theorem posAt_box {w : World} {b t k : Nat} (h : Boxed w b t (.int .i64 (k : Int))) : posAt w b = k := by simp [posAt, h.cell]

/-- A box of the call's own was written, and nothing else. -/
structure Turned (w w' : World) (b t : Nat) (v : Value) : Prop where
  box : Boxed w' b t v
  grown : w.grownBy w' (some b)
  size : w'.heap.size = w.heap.size

theorem Turned.set {w : World} {b t : Nat} {v : Value} (h : Boxed w b t v) (v' : Value) : Turned w (w.setCell ⟨b, 0, none⟩ v') b t v' :=
  ⟨h.set v', grownBy_setCell' w b v', by simp [World.setCell]⟩
theorem Turned.refl {w : World} {b t : Nat} {v : Value} (h : Boxed w b t v) : Turned w w b t v := ⟨h, ⟨rfl, rfl, rfl, Nat.le_refl _, fun _ _ _ => rfl⟩, rfl⟩
theorem Turned.trans {w w1 w2 : World} {b t : Nat} {v v' : Value} (h : Turned w w1 b t v) (k : Turned w1 w2 b t v') : Turned w w2 b t v' :=
  ⟨k.box, ⟨k.grown.os.trans h.grown.os, k.grown.tape.trans h.grown.tape, k.grown.output.trans h.grown.output, Nat.le_trans h.grown.size k.grown.size, fun j hj hne => (k.grown.block j (Nat.lt_of_lt_of_le hj h.grown.size) hne).trans (h.grown.block j hj hne)⟩, k.size.trans h.size⟩
theorem Turned.other {w w' : World} {b t : Nat} {v : Value} (h : Turned w w' b t v) {b2 : Nat} (hb : b2 < w.heap.size) (hne : b2 ≠ b) : w'.heap[b2]? = w.heap[b2]? := h.grown.block b2 hb (by simp [hne])
theorem Turned.keep {w w' : World} {b t : Nat} {v : Value} (h : Turned w w' b t v) {b2 t2 : Nat} {u : Value} (hb : Boxed w b2 t2 u) (hne : b2 ≠ b) : Boxed w' b2 t2 u := (h.other hb.lt hne).trans hb

set_option maxRecDepth 100000 in
set_option maxHeartbeats 1000000 in
theorem digits_any (s : ByteArray) (k b0 b2 : Nat) (w : World) (hs : s.size ≤ 9223372036854775807) (hk : k ≤ s.size) (hne : b0 ≠ b2) (h0 : Boxed w b0 9 (.string s)) (h2 : Boxed w b2 3 (.int .i64 (k : Int))) :
    Calls Tryz.prog 107 #[.pointer (some ⟨b2, 0, none⟩), .pointer (some ⟨b0, 0, none⟩)] w fun e w' => e = .returned (.string (s.extract k (k + run s k))) ∧ Turned w w' b2 3 (.int .i64 ((k + run s k : Nat) : Int)) := by
  obtain ⟨E, hE⟩ : ∃ E, E = k + run s k := ⟨_, rfl⟩
  rw [← hE]
  have HE := hide hE
  have c2 := h2.cell
  have hkE : k ≤ E := by omega
  clear hE
  go_enter Tryz.func107, Tryz.ntmps107
  go_wp2
  go_loopw [] (fun wr => ∃ p : Nat, p ≤ s.size ∧ Hid (p + run s p = E) ∧ Turned w wr b2 3 (.int .i64 (p : Int))) (fun wr => s.size - posAt wr b2)
  case atStart => exact ⟨k, hk, HE.out.symm, Turned.refl h2⟩
  case round =>
    obtain ⟨p, hp, HP, ht⟩ := hrel
    have q0 := (ht.keep h0 hne)
    have r0 := q0.cell
    have r2 := ht.box.cell
    have f2 := ht.box.frozen
    have hpos := posAt_box ht.box
    have HPOS := hide hpos
    clear hpos c2
    by_cases hlt : p < s.size
    · have hi : (p : Int) < (s.size : Int) := by omega
      cases hd : dg s[p]
      · have hb := dg_false hd
        have he : E = p := by have := HP.out; rw [run_miss hlt hd] at this; omega
        subst he
        clear hd HP HE
        by_cases hlow : (s[E].toNat : Int) < 48
        · clear hb
          go_wp2_with fail
          go_ret
          exact ⟨rfl, ht⟩
        · have hhi : 57 < (s[E].toNat : Int) := by omega
          clear hb
          go_wp2_with fail
          go_ret
          exact ⟨rfl, ht⟩
      · have hb := dg_true hd
        have hb1 := hb.1
        have hb2 := hb.2
        have hr := run_hit hlt hd
        have HR := hide hr
        clear hr hd hb
        go_wp2_with fail
        go_roundw
        case rel => exact ⟨p + 1, by omega, by have := HP.out; rw [HR.out] at this; show _ = _; omega, ht.trans (Turned.set ht.box _)⟩
        case measure =>
          have hb3 : Boxed (wr.setCell ⟨b2, 0, none⟩ (.int .i64 ((p : Int) + 1))) b2 3 (.int .i64 ((p + 1 : Nat) : Int)) := ht.box.set _
          rw [posAt_box hb3, HPOS.out]; omega
    · have he : E = p := by have := HP.out; rw [run_end (by omega)] at this; omega
      subst he
      have hi : ¬ (E : Int) < (s.size : Int) := by omega
      clear HP HE
      go_wp2_with fail
      go_ret
      exact ⟨rfl, ht⟩

/-- One of these signs stands at the place. -/
def hasAt (g s : ByteArray) (k : Nat) : Bool := decide (k < s.size) && decide (0 ≤ Lib.indexByte g.data.toList (s.data.toList.getD k 0))

set_option maxRecDepth 100000 in
set_option maxHeartbeats 1000000 in
theorem take_any (g s : ByteArray) (k b0 b2 : Nat) (w : World) (hs : s.size ≤ 9223372036854775806) (hk : k ≤ s.size) (h0 : Boxed w b0 9 (.string s)) (h2 : Boxed w b2 3 (.int .i64 (k : Int))) :
    Calls Tryz.prog 108 #[.string g, .pointer (some ⟨b2, 0, none⟩), .pointer (some ⟨b0, 0, none⟩)] w fun e w' => e = .returned (.bool (hasAt g s k)) ∧ Turned w w' b2 3 (.int .i64 ((k + (hasAt g s k).toNat : Nat) : Int)) := by
  have c0 := h0.cell
  have c2 := h2.cell
  have f2 := h2.frozen
  by_cases hlt : k < s.size
  · have hi : (k : Int) < (s.size : Int) := by omega
    have hix := fun w => Tryz.strings_IndexByte g (s[k].toNat : Int) w
    have eb : ((s[k].toNat : Int).toNat.toUInt8) = s.data.toList.getD k 0 := by
      have : s.data.toList.getD k 0 = s[k] := by simp [List.getD, hlt]; rfl
      rw [this]; simp
    rw [eb] at hix
    have HX := hide hix
    clear hix eb
    by_cases hin : 0 ≤ Lib.indexByte g.data.toList (s.data.toList.getD k 0)
    · have e : hasAt g s k = true := by unfold hasAt; rw [decide_eq_true hlt, decide_eq_true hin]; rfl
      rw [e]; clear e
      generalize Lib.indexByte g.data.toList (s.data.toList.getD k 0) = ix at *
      go_enter Tryz.func108, Tryz.ntmps108
      go_wp2_with fail
      refine (unhide HX _).mono ?_
      rintro e w' ⟨rfl, rfl⟩
      go_wp2_with fail
      go_ret
      exact ⟨rfl, Turned.set h2 _⟩
    · have e : hasAt g s k = false := by unfold hasAt; rw [decide_eq_true hlt, decide_eq_false hin]; rfl
      rw [e]; clear e
      have hdec := decide_eq_false hin
      generalize Lib.indexByte g.data.toList (s.data.toList.getD k 0) = ix at *
      go_enter Tryz.func108, Tryz.ntmps108
      go_wp2_with fail
      refine (unhide HX _).mono ?_
      rintro e w' ⟨rfl, rfl⟩
      go_wp2_with fail
      go_ret
      exact ⟨rfl, Turned.refl h2⟩
  · have e : hasAt g s k = false := by simp [hasAt, hlt]
    rw [e]; clear e
    have hi : ¬ (k : Int) < (s.size : Int) := by omega
    go_enter Tryz.func108, Tryz.ntmps108
    go_wp2_with fail
    go_ret
    exact ⟨rfl, Turned.refl h2⟩

end Go.Proofs.YtmnmpfcfdopjnaaGreatDoor

/- What minus and cut answer: the parts of the longest number's text with which a text begins. -/
namespace Go.Proofs.YtmnmpfcfdopjnaaGreatDoor
open Go.RowKit

def PM : ByteArray := ⟨#[43, 45]⟩
def DOT : ByteArray := ⟨#[46]⟩
def EE : ByteArray := ⟨#[101, 69]⟩
/-- A - stands at the place. -/
def negAt (s : ByteArray) (k : Nat) : Bool := hasAt PM s k && (s.data.toList.getD k 0 == 45)

/-- The function value in take's box. -/
abbrev takeV (b0 b2 : Nat) : Value := .func (.func 108) #[] #[.pointer (some ⟨b2, 0, none⟩), .pointer (some ⟨b0, 0, none⟩)]

set_option maxRecDepth 100000 in
set_option maxHeartbeats 1000000 in
theorem minus_any (s : ByteArray) (k b0 b2 b3 t3 : Nat) (w : World) (hs : s.size ≤ 9223372036854775806) (hk : k ≤ s.size) (hne : b0 ≠ b2) (h0 : Boxed w b0 9 (.string s)) (h2 : Boxed w b2 3 (.int .i64 (k : Int))) (h3 : Boxed w b3 t3 (takeV b0 b2)) :
    Calls Tryz.prog 109 #[.pointer (some ⟨b3, 0, none⟩), .pointer (some ⟨b0, 0, none⟩), .pointer (some ⟨b2, 0, none⟩)] w fun e w' => e = .returned (.bool (negAt s k)) ∧ Turned w w' b2 3 (.int .i64 ((k + (hasAt PM s k).toNat : Nat) : Int)) := by
  have ct := take_any PM s k b0 b2 w hs hk h0 h2
  have c3 := h3.cell
  have hh : hasAt PM s k = true → k < s.size := by unfold hasAt; intro h; simp at h; exact h.1
  cases hp : hasAt PM s k
  · have e : negAt s k = false := by simp [negAt, hp]
    rw [e]; clear e
    rw [hp] at ct
    have CT := hide ct
    clear ct hp hh
    go_enter Tryz.func109, Tryz.ntmps109
    go_wp2_with fail
    refine (unhide CT).mono ?_
    rintro e w' ⟨rfl, ht⟩
    go_wp2_with fail
    go_ret
    exact ⟨rfl, ht⟩
  · have hlt := hh hp
    have eb : s.data.toList.getD k 0 = s[k] := by simp [List.getD, hlt]; rfl
    have en : negAt s k = ((s[k].toNat : Int) == 45) := by
      simp only [negAt, hp, eb, Bool.true_and]
      rw [Bool.eq_iff_iff]
      simp [← UInt8.toNat_inj]
      omega
    rw [en]
    rw [hp] at ct
    have CT := hide ct
    clear ct hp hh eb en
    go_enter Tryz.func109, Tryz.ntmps109
    go_wp2_with fail
    refine (unhide CT).mono ?_
    rintro e w' ⟨rfl, ht⟩
    have q0 := (ht.keep h0 hne).cell
    have q2 := ht.box.cell
    simp only [Bool.toNat_true] at q2
    have hkk : ((k + 1 : Nat) : Int) - 1 = (k : Int) := by omega
    go_wp2_with fail
    go_ret
    exact ⟨rfl, ht⟩

end Go.Proofs.YtmnmpfcfdopjnaaGreatDoor

/- What cut answers: the parts of the longest number's text with which a text begins. -/
namespace Go.Proofs.YtmnmpfcfdopjnaaGreatDoor
open Go.RowKit

/-- The cells of a block of parts. -/
abbrev pcells (m d : Bool) (W F X : ByteArray) (len : Nat) : Array Value := #[.bool m, .bool d, .string W, .string F, .string X, .int .i64 (len : Int)]
def PAt (w : World) (g : Nat) (m d : Bool) (W F X : ByteArray) (len : Nat) : Prop := w.heap[g]? = some (.cells (pcells m d W F X len) 108 (0, 0))
section
variable {w : World} {g : Nat} {m d : Bool} {W F X : ByteArray} {len : Nat}
theorem PAt.lt (a : PAt w g m d W F X len) : g < w.heap.size := (Array.getElem?_eq_some_iff.1 a).1
theorem PAt.c0 (a : PAt w g m d W F X len) : w.cell? ⟨g, 0, none⟩ = some (.bool m) := by simp [World.cell?, show w.heap[g]? = _ from a]
theorem PAt.c1 (a : PAt w g m d W F X len) : w.cell? ⟨g, 1, none⟩ = some (.bool d) := by simp [World.cell?, show w.heap[g]? = _ from a]
theorem PAt.c2 (a : PAt w g m d W F X len) : w.cell? ⟨g, 2, none⟩ = some (.string W) := by simp [World.cell?, show w.heap[g]? = _ from a]
theorem PAt.c3 (a : PAt w g m d W F X len) : w.cell? ⟨g, 3, none⟩ = some (.string F) := by simp [World.cell?, show w.heap[g]? = _ from a]
theorem PAt.c4 (a : PAt w g m d W F X len) : w.cell? ⟨g, 4, none⟩ = some (.string X) := by simp [World.cell?, show w.heap[g]? = _ from a]
theorem PAt.c5 (a : PAt w g m d W F X len) : w.cell? ⟨g, 5, none⟩ = some (.int .i64 (len : Int)) := by simp [World.cell?, show w.heap[g]? = _ from a]
theorem PAt.fz (a : PAt w g m d W F X len) (i : Nat) : w.frozen? ⟨g, i, none⟩ = false := by simp [World.frozen?, show w.heap[g]? = _ from a]
theorem PAt.set1 (a : PAt w g m d W F X len) (d' : Bool) : PAt (w.setCell ⟨g, 1, none⟩ (.bool d')) g m d' W F X len := heap_setCell_same w g 1 _ _ (.bool d') a
theorem PAt.set2 (a : PAt w g m d W F X len) (W' : ByteArray) : PAt (w.setCell ⟨g, 2, none⟩ (.string W')) g m d W' F X len := heap_setCell_same w g 2 _ _ (.string W') a
theorem PAt.set3 (a : PAt w g m d W F X len) (F' : ByteArray) : PAt (w.setCell ⟨g, 3, none⟩ (.string F')) g m d W F' X len := heap_setCell_same w g 3 _ _ (.string F') a
theorem PAt.set4 (a : PAt w g m d W F X len) (X' : ByteArray) : PAt (w.setCell ⟨g, 4, none⟩ (.string X')) g m d W F X' len := heap_setCell_same w g 4 _ _ (.string X') a
theorem PAt.set5 (a : PAt w g m d W F X len) (len' : Nat) : PAt (w.setCell ⟨g, 5, none⟩ (.int .i64 (len' : Int))) g m d W F X len' := heap_setCell_same w g 5 _ _ (.int .i64 (len' : Int)) a
theorem PAt.other (a : PAt w g m d W F X len) {b i : Nat} (hb : g ≠ b) (v : Value) : PAt (w.setCell ⟨b, i, none⟩ v) g m d W F X len := (Below.heap_setCell w ⟨b, i, none⟩ v g hb).trans a
theorem PAt.turned (a : PAt w g m d W F X len) {w' : World} {b t : Nat} {v : Value} (h : Turned w w' b t v) (hb : g ≠ b) : PAt w' g m d W F X len := (h.other a.lt hb).trans a
end
theorem box_other {w : World} {g t : Nat} {u : Value} (a : Boxed w g t u) {b i : Nat} (hb : g ≠ b) (v : Value) : Boxed (w.setCell ⟨b, i, none⟩ v) g t u := (Below.heap_setCell w ⟨b, i, none⟩ v g hb).trans a

/-- The five blocks of a call of cut. -/
structure CutSt (w wr : World) (s : ByteArray) (k : Nat) (m d : Bool) (W F X : ByteArray) (len : Nat) : Prop where
  b0 : Boxed wr w.heap.size 9 (.string s)
  b1 : PAt wr (w.heap.size + 1) false false (⟨#[]⟩ : ByteArray) (⟨#[]⟩ : ByteArray) (⟨#[]⟩ : ByteArray) 0
  b2 : Boxed wr (w.heap.size + 1 + 1) 3 (.int .i64 (k : Int))
  b3 : Boxed wr (w.heap.size + 1 + 1 + 1) 72 (takeV w.heap.size (w.heap.size + 1 + 1))
  b4 : PAt wr (w.heap.size + 1 + 1 + 1 + 1) m d W F X len
  bel : Below w.heap.size w wr

section
variable {w wr : World} {s : ByteArray} {k : Nat} {m d : Bool} {W F X : ByteArray} {len : Nat}
/-- Behind a call of a closure. -/
theorem CutSt.turned (c : CutSt w wr s k m d W F X len) {w' : World} {k' : Nat} (h : Turned wr w' (w.heap.size + 1 + 1) 3 (.int .i64 (k' : Int))) : CutSt w w' s k' m d W F X len :=
  ⟨h.keep c.b0 (by omega), c.b1.turned h (by omega), h.box, h.keep c.b3 (by omega), c.b4.turned h (by omega), c.bel.grown h.grown c.bel.size (fun j e => by cases e; omega)⟩
/-- Behind a store into the parts, or into the place. -/
theorem CutSt.s1 (c : CutSt w wr s k m d W F X len) (d' : Bool) : CutSt w (wr.setCell ⟨w.heap.size + 1 + 1 + 1 + 1, 1, none⟩ (.bool d')) s k m d' W F X len :=
  ⟨box_other c.b0 (by omega) _, c.b1.other (by omega) _, box_other c.b2 (by omega) _, box_other c.b3 (by omega) _, c.b4.set1 d', c.bel.setCell (p := ⟨w.heap.size + 1 + 1 + 1 + 1, 1, none⟩) (by dsimp only; omega) _⟩
theorem CutSt.s2 (c : CutSt w wr s k m d W F X len) (W' : ByteArray) : CutSt w (wr.setCell ⟨w.heap.size + 1 + 1 + 1 + 1, 2, none⟩ (.string W')) s k m d W' F X len :=
  ⟨box_other c.b0 (by omega) _, c.b1.other (by omega) _, box_other c.b2 (by omega) _, box_other c.b3 (by omega) _, c.b4.set2 W', c.bel.setCell (p := ⟨w.heap.size + 1 + 1 + 1 + 1, 2, none⟩) (by dsimp only; omega) _⟩
theorem CutSt.s3 (c : CutSt w wr s k m d W F X len) (F' : ByteArray) : CutSt w (wr.setCell ⟨w.heap.size + 1 + 1 + 1 + 1, 3, none⟩ (.string F')) s k m d W F' X len :=
  ⟨box_other c.b0 (by omega) _, c.b1.other (by omega) _, box_other c.b2 (by omega) _, box_other c.b3 (by omega) _, c.b4.set3 F', c.bel.setCell (p := ⟨w.heap.size + 1 + 1 + 1 + 1, 3, none⟩) (by dsimp only; omega) _⟩
theorem CutSt.s4 (c : CutSt w wr s k m d W F X len) (X' : ByteArray) : CutSt w (wr.setCell ⟨w.heap.size + 1 + 1 + 1 + 1, 4, none⟩ (.string X')) s k m d W F X' len :=
  ⟨box_other c.b0 (by omega) _, c.b1.other (by omega) _, box_other c.b2 (by omega) _, box_other c.b3 (by omega) _, c.b4.set4 X', c.bel.setCell (p := ⟨w.heap.size + 1 + 1 + 1 + 1, 4, none⟩) (by dsimp only; omega) _⟩
theorem CutSt.s5 (c : CutSt w wr s k m d W F X len) (len' : Nat) : CutSt w (wr.setCell ⟨w.heap.size + 1 + 1 + 1 + 1, 5, none⟩ (.int .i64 (len' : Int))) s k m d W F X len' :=
  ⟨box_other c.b0 (by omega) _, c.b1.other (by omega) _, box_other c.b2 (by omega) _, box_other c.b3 (by omega) _, c.b4.set5 len', c.bel.setCell (p := ⟨w.heap.size + 1 + 1 + 1 + 1, 5, none⟩) (by dsimp only; omega) _⟩
theorem CutSt.at (c : CutSt w wr s k m d W F X len) (k' : Nat) : CutSt w (wr.setCell ⟨w.heap.size + 1 + 1, 0, none⟩ (.int .i64 (k' : Int))) s k' m d W F X len :=
  c.turned (Turned.set c.b2 _)
end

/-- The parts. -/
def aOne (s : ByteArray) : Nat := (hasAt PM s 0).toNat + run s (hasAt PM s 0).toNat
def wholeV (s : ByteArray) : ByteArray := s.extract (hasAt PM s 0).toNat (aOne s)
def fracN (s : ByteArray) : Nat := if hasAt DOT s (aOne s) then run s (aOne s + 1) else 0
def fracV (s : ByteArray) : ByteArray := if hasAt DOT s (aOne s) then s.extract (aOne s + 1) (aOne s + 1 + run s (aOne s + 1)) else (⟨#[]⟩ : ByteArray)
def aTwo (s : ByteArray) : Nat := if hasAt DOT s (aOne s) then aOne s + 1 + run s (aOne s + 1) else aOne s
def noneB (s : ByteArray) : Bool := (run s (hasAt PM s 0).toNat == 0) && (fracN s == 0)
def aThree (s : ByteArray) : Nat := if fracN s = 0 then aOne s else aTwo s
def aFour (s : ByteArray) : Nat := aThree s + 1 + (hasAt PM s (aThree s + 1)).toNat
def expN (s : ByteArray) : Nat := if hasAt EE s (aThree s) then run s (aFour s) else 0
def downV (s : ByteArray) : Bool := hasAt EE s (aThree s) && negAt s (aThree s + 1)
def expV (s : ByteArray) : ByteArray := if hasAt EE s (aThree s) then s.extract (aFour s) (aFour s + run s (aFour s)) else (⟨#[]⟩ : ByteArray)
def lenV' (s : ByteArray) : Nat := if expN s = 0 then aThree s else aFour s + expN s

theorem hasAt_lt {g s : ByteArray} {k : Nat} (h : hasAt g s k = true) : k < s.size := by unfold hasAt at h; simp at h; exact h.1
theorem toNat_le (b : Bool) : b.toNat ≤ 1 := by cases b <;> simp

theorem ext_size (s : ByteArray) (a b : Nat) (hb : b ≤ s.size) : (s.extract a b).size = b - a := by simp; omega
theorem isEmpty_ext (s : ByteArray) (a n : Nat) (hb : a + n ≤ s.size) : (s.extract a (a + n)).toList.isEmpty = decide (n = 0) := by
  rw [Lib.extract_toList, Bool.eq_iff_iff]
  simp only [List.isEmpty_iff, decide_eq_true_eq]
  have hl : ((s.data.toList.drop a).take (a + n - a)).length = n := by simp; omega
  constructor
  · intro e; rw [e] at hl; simpa using hl.symm
  · intro e; apply List.length_eq_zero_iff.1; omega

theorem e0_empty : (⟨#[]⟩ : ByteArray).toList.isEmpty = true := by decide +kernel

/-- All six cells written. -/
theorem PAt.all {w : World} {g : Nat} {m d : Bool} {W F X : ByteArray} {len : Nat} (a : PAt w g m d W F X len) (m' d' : Bool) (W' F' X' : ByteArray) (len' : Nat) :
    PAt ((((((w.setCell ⟨g, 0, none⟩ (.bool m')).setCell ⟨g, 1, none⟩ (.bool d')).setCell ⟨g, 2, none⟩ (.string W')).setCell ⟨g, 3, none⟩ (.string F')).setCell ⟨g, 4, none⟩ (.string X')).setCell ⟨g, 5, none⟩ (.int .i64 (len' : Int))) g m' d' W' F' X' len' := by
  have h0 : PAt (w.setCell ⟨g, 0, none⟩ (.bool m')) g m' d W F X len := heap_setCell_same w g 0 _ _ (.bool m') a
  exact ((((h0.set1 d').set2 W').set3 F').set4 X').set5 len'
theorem below_six {w wr : World} {g B : Nat} (h : Below B w wr) (hg : B ≤ g) (v0 v1 v2 v3 v4 v5 : Value) :
    Below B w ((((((wr.setCell ⟨g, 0, none⟩ v0).setCell ⟨g, 1, none⟩ v1).setCell ⟨g, 2, none⟩ v2).setCell ⟨g, 3, none⟩ v3).setCell ⟨g, 4, none⟩ v4).setCell ⟨g, 5, none⟩ v5) :=
  (((((h.setCell (p := ⟨g, 0, none⟩) hg _).setCell (p := ⟨g, 1, none⟩) hg _).setCell (p := ⟨g, 2, none⟩) hg _).setCell (p := ⟨g, 3, none⟩) hg _).setCell (p := ⟨g, 4, none⟩) hg _).setCell (p := ⟨g, 5, none⟩) hg _

def aFive (s : ByteArray) : Nat := if hasAt EE s (aThree s) then aFour s + run s (aFour s) else aThree s

/-- What cut hands back. -/
def cutVal (s : ByteArray) : Array Value := if noneB s = true then pcells false false (⟨#[]⟩ : ByteArray) (⟨#[]⟩ : ByteArray) (⟨#[]⟩ : ByteArray) 0 else pcells (negAt s 0) (downV s) (wholeV s) (fracV s) (expV s) (lenV' s)

set_option maxRecDepth 100000 in
set_option maxHeartbeats 2000000 in
theorem cut_any (s : ByteArray) (w : World) (hs : s.size ≤ 9223372036854775000) :
    Calls Tryz.prog 75 #[.string s] w fun e w' => e = .returned (.agg (cutVal s)) ∧ Below w.heap.size w w' := by
  obtain ⟨k0, hk0⟩ : ∃ k0, k0 = (hasAt PM s 0).toNat := ⟨_, rfl⟩
  have hk0s : k0 ≤ s.size := by
    rw [hk0]; cases h : hasAt PM s 0
    · simp
    · have := hasAt_lt h; simp; omega
  have h1s := run_le s k0 hk0s
  obtain ⟨n1, hn1⟩ : ∃ n1, n1 = run s k0 := ⟨_, rfl⟩
  obtain ⟨a1, ha1⟩ : ∃ a1, a1 = aOne s := ⟨_, rfl⟩
  have ha1' : a1 = k0 + n1 := by rw [ha1, hn1, hk0]; rfl
  have hW : wholeV s = s.extract k0 (k0 + n1) := by unfold wholeV; rw [← hk0, ← ha1, ha1']
  have hWe := isEmpty_ext s k0 n1 (by rw [hn1]; exact h1s)
  rw [← hW] at hWe
  obtain ⟨W, eW⟩ : ∃ W, W = wholeV s := ⟨_, rfl⟩
  obtain ⟨m, em⟩ : ∃ m, m = negAt s 0 := ⟨_, rfl⟩
  have HK0 := hide hk0
  have HN1 := hide hn1
  have HA1 := hide ha1
  have HA1' := hide ha1'
  have HW := hide hW
  have EW := hide eW
  have EM := hide em
  rw [← eW] at hWe
  have HWE := hide hWe
  have ha1s : a1 ≤ s.size := by rw [ha1', hn1]; exact h1s
  clear hk0 hn1 ha1 ha1' hW eW em hWe h1s
  -- the four boxes
  have st : ∀ (w0 : World), w0 = ((((w.alloc (.cells #[.string s] 9)).alloc (.cells (pcells false false (⟨#[]⟩ : ByteArray) (⟨#[]⟩ : ByteArray) (⟨#[]⟩ : ByteArray) 0) 108)).alloc (.cells #[.int .i64 ((0 : Nat) : Int)] 3)).alloc (.cells #[takeV w.heap.size (w.heap.size + 1 + 1)] 72)) →
      Boxed w0 w.heap.size 9 (.string s) ∧ PAt w0 (w.heap.size + 1) false false (⟨#[]⟩ : ByteArray) (⟨#[]⟩ : ByteArray) (⟨#[]⟩ : ByteArray) 0 ∧ Boxed w0 (w.heap.size + 1 + 1) 3 (.int .i64 ((0 : Nat) : Int)) ∧ Boxed w0 (w.heap.size + 1 + 1 + 1) 72 (takeV w.heap.size (w.heap.size + 1 + 1)) ∧ Below w.heap.size w w0 ∧ w0.heap.size = w.heap.size + 1 + 1 + 1 + 1 := by
    intro w0 e
    subst e
    refine ⟨(((Boxed.new w _ _).alloc _).alloc _).alloc _, ?_, ?_, ?_, ?_, by simp⟩
    · have h : PAt ((w.alloc (.cells #[.string s] 9)).alloc (.cells (pcells false false (⟨#[]⟩ : ByteArray) (⟨#[]⟩ : ByteArray) (⟨#[]⟩ : ByteArray) 0) 108)) (w.heap.size + 1) false false (⟨#[]⟩ : ByteArray) (⟨#[]⟩ : ByteArray) (⟨#[]⟩ : ByteArray) 0 := by
        have := heap_alloc_new (w.alloc (.cells #[.string s] 9)) (.cells (pcells false false (⟨#[]⟩ : ByteArray) (⟨#[]⟩ : ByteArray) (⟨#[]⟩ : ByteArray) 0) 108)
        rw [World.size_alloc] at this
        exact this
      exact (Below.heap_alloc _ _ _ (by simp)).trans ((Below.heap_alloc _ _ _ (by simp)).trans h)
    · have h := Boxed.new ((w.alloc (.cells #[.string s] 9)).alloc (.cells (pcells false false (⟨#[]⟩ : ByteArray) (⟨#[]⟩ : ByteArray) (⟨#[]⟩ : ByteArray) 0) 108)) 3 (.int .i64 ((0 : Nat) : Int))
      rw [World.size_alloc, World.size_alloc] at h
      exact h.alloc _
    · have h := Boxed.new (((w.alloc (.cells #[.string s] 9)).alloc (.cells (pcells false false (⟨#[]⟩ : ByteArray) (⟨#[]⟩ : ByteArray) (⟨#[]⟩ : ByteArray) 0) 108)).alloc (.cells #[.int .i64 ((0 : Nat) : Int)] 3)) 72 (takeV w.heap.size (w.heap.size + 1 + 1))
      rw [World.size_alloc, World.size_alloc, World.size_alloc] at h
      exact h
    · exact ((((Below.refl _ _).alloc (Nat.le_refl _) _).alloc (by simp) _).alloc (by simp; omega) _).alloc (by simp; omega) _
  have ST := hide st
  clear st
  go_enter Tryz.func75, Tryz.ntmps75
  go_wp2_with fail
  obtain ⟨x0, x1, x2, x3, x4, x5⟩ := ST.out _ rfl
  refine (minus_any s 0 w.heap.size (w.heap.size + 1 + 1) (w.heap.size + 1 + 1 + 1) 72 _ (by omega) (Nat.zero_le _) (by omega) x0 x2 x3).mono ?_
  rintro e w1 ⟨rfl, ht⟩
  have hz1 : w1.heap.size = w.heap.size + 1 + 1 + 1 + 1 := ht.size.trans x5
  rw [← EM.out]
  rw [Nat.zero_add, ← HK0.out] at ht
  have st0 : CutSt w (w1.alloc (.cells (pcells m false (⟨#[]⟩ : ByteArray) (⟨#[]⟩ : ByteArray) (⟨#[]⟩ : ByteArray) 0) 108)) s k0 m false (⟨#[]⟩ : ByteArray) (⟨#[]⟩ : ByteArray) (⟨#[]⟩ : ByteArray) 0 := by
    refine ⟨(ht.keep x0 (by omega)).alloc _, (Below.heap_alloc _ _ _ (by omega)).trans (x1.turned ht (by omega)), ht.box.alloc _, (ht.keep x3 (by omega)).alloc _, ?_, ?_⟩
    · have := heap_alloc_new w1 (.cells (pcells m false (⟨#[]⟩ : ByteArray) (⟨#[]⟩ : ByteArray) (⟨#[]⟩ : ByteArray) 0) 108)
      rw [hz1] at this
      exact this
    · have h := x4.grown ht.grown x4.size (fun j e => by cases e; omega)
      exact h.alloc h.size _
  clear ST x0 x1 x2 x3 x4 x5
  go_wp2_with fail
  refine (digits_any s k0 w.heap.size (w.heap.size + 1 + 1) _ (by omega) hk0s (by omega) st0.b0 st0.b2).mono ?_
  rintro e w2 ⟨rfl, ht2⟩
  rw [← HN1.out, ← HW.out, ← EW.out]
  rw [← HN1.out, ← HA1'.out] at ht2
  have st1 := st0.turned ht2
  have st2 := st1.s2 W
  have st3 := st2.s5 a1
  have p2 := st1.b4.c2
  have p2f := st1.b4.fz 2
  have p5 := st2.b4.c5
  have p5f := st2.b4.fz 5
  have pa := st2.b2.cell
  have pt := st3.b3.cell
  clear ht ht2 st0 hz1 st1 st2
  go_wp2_with fail
  refine (take_any DOT s a1 w.heap.size (w.heap.size + 1 + 1) _ (by omega) ha1s st3.b0 st3.b2).mono ?_
  rintro e w3 ⟨rfl, ht3⟩
  have st4 := st3.turned ht3
  clear ht3 st3 p2 p2f p5 p5f pa pt
  obtain ⟨dot, edot⟩ : ∃ dot, dot = hasAt DOT s a1 := ⟨_, rfl⟩
  rw [← edot] at st4 ⊢
  have hF : fracV s = if dot then s.extract (a1 + 1) (a1 + 1 + run s (a1 + 1)) else (⟨#[]⟩ : ByteArray) := by unfold fracV; rw [← HA1.out, ← edot]
  have hN2 : fracN s = if dot then run s (a1 + 1) else 0 := by unfold fracN; rw [← HA1.out, ← edot]
  have hA2 : aTwo s = if dot then a1 + 1 + run s (a1 + 1) else a1 := by unfold aTwo; rw [← HA1.out, ← edot]
  have hdots : dot = true → a1 + 1 ≤ s.size := fun h => by rw [edot] at h; exact hasAt_lt h
  have HF := hide hF
  have HN2 := hide hN2
  have HA2 := hide hA2
  have HDS := hide hdots
  clear hF hN2 hA2 hdots edot
  go_upto_if 20 with fail
  go_cut [] (fun wx => CutSt w wx s (aTwo s) m false W (fracV s) (⟨#[]⟩ : ByteArray) a1)
  case first =>
    cases dot
    · simp only [Bool.toNat_false, Nat.add_zero] at st4
      go_wp2_with fail
      go_meet
      case rel => rw [HA2.out, HF.out]; exact st4
    · simp only [Bool.toNat_true] at st4
      have hd1 := HDS.out rfl
      go_wp2_with fail
      refine (digits_any s (a1 + 1) w.heap.size (w.heap.size + 1 + 1) _ (by omega) hd1 (by omega) st4.b0 st4.b2).mono ?_
      rintro e w4 ⟨rfl, ht4⟩
      have st5 := st4.turned ht4
      have p3 := st5.b4.c3
      have p3f := st5.b4.fz 3
      have st6 := st5.s3 (s.extract (a1 + 1) (a1 + 1 + run s (a1 + 1)))
      clear ht4 st4 st5
      go_wp2_with fail
      go_meet
      case rel => rw [HA2.out, HF.out]; exact st6
  case rest =>
    have hFe : (fracV s).toList.isEmpty = decide (fracN s = 0) := by
      rw [HF.out, HN2.out]
      cases dot
      · exact e0_empty
      · have h1 := HDS.out rfl
        exact isEmpty_ext s (a1 + 1) (run s (a1 + 1)) (run_le s (a1 + 1) h1)
    have ha2s : aTwo s ≤ s.size := by
      rw [HA2.out]
      cases dot
      · exact ha1s
      · exact run_le s (a1 + 1) (HDS.out rfl)
    have hA3 : aThree s = if fracN s = 0 then a1 else aTwo s := by unfold aThree; rw [← HA1.out]
    have hno : noneB s = ((n1 == 0) && (fracN s == 0)) := by unfold noneB; rw [← HK0.out, ← HN1.out]
    have hres : noneB s = false → cutVal s = pcells m (downV s) W (fracV s) (expV s) (lenV' s) := fun h => by unfold cutVal; rw [if_neg (by rw [h]; simp), EM.out, EW.out]
    have hres0 : noneB s = true → cutVal s = pcells false false (⟨#[]⟩ : ByteArray) (⟨#[]⟩ : ByteArray) (⟨#[]⟩ : ByteArray) 0 := fun h => by unfold cutVal; rw [if_pos h]
    obtain ⟨F, eF⟩ : ∃ F, F = fracV s := ⟨_, rfl⟩
    obtain ⟨n2, en2⟩ : ∃ n2, n2 = fracN s := ⟨_, rfl⟩
    obtain ⟨a2, ea2⟩ : ∃ a2, a2 = aTwo s := ⟨_, rfl⟩
    obtain ⟨a3, ea3⟩ : ∃ a3, a3 = aThree s := ⟨_, rfl⟩
    rw [← eF, ← en2] at hFe
    rw [← ea2] at ha2s
    rw [← ea2, ← ea3, ← en2] at hA3
    rw [← en2] at hno
    rw [← eF] at hres
    rw [← eF, ← ea2] at hcut
    have HA3 := hide hA3
    have HNO := hide hno
    have HRES := hide hres
    have HRES0 := hide hres0
    have HFE := hide hFe
    have EA3 := hide ea3
    have ha3s : a3 ≤ s.size := by rw [hA3]; split <;> omega
    clear hA3 hno hres hres0 hFe ea3 eF en2 ea2 HF HN2 HA2 HDS HK0 HN1 HA1 HA1' HW EW EM hk0s st4 dot
    have q2 := hcut.b4.c2
    have q3 := hcut.b4.c3
    cases hnb : noneB s
    · -- there is a number
      have hres := HRES.out hnb
      have HRV := hide hres
      rw [HNO.out] at hnb
      clear HNO HRES HRES0 hres
      have hor : ¬ n1 = 0 ∨ ¬ n2 = 0 := by
        by_cases e : n1 = 0
        · right; intro e2; simp [e, e2] at hnb
        · exact .inl e
      clear hnb
      go_upto_region 10 with fail
      go_cut [31] (fun b wx => b = .bool false ∧ CutSt w wx s a2 m false W F (⟨#[]⟩ : ByteArray) a1)
      case first =>
        by_cases e1 : n1 = 0
        · have e2 : ¬ n2 = 0 := by rcases hor with h | h; exact absurd e1 h; exact h
          have hwe : W.toList.isEmpty = true := by rw [HWE.out]; simp [e1]
          have hfe : F.toList.isEmpty = false := by rw [HFE.out]; simp [e2]
          go_wp2_with fail
          go_meet
          case rel => exact ⟨rfl, hcut⟩
        · have hwe : W.toList.isEmpty = false := by rw [HWE.out]; simp [e1]
          go_wp2_with fail
          go_meet
          case rel => exact ⟨rfl, hcut⟩
      case rest =>
        clear q2 q3 hor
        obtain ⟨rfl, hc2⟩ := hcut
        have q3 := hc2.b4.c3
        have q5 := hc2.b4.c5
        have qa := hc2.b2.cell
        have qf := hc2.b2.frozen
        have hst := hc2.at a1
        go_upto_if 35 with fail
        go_cut [] (fun wx => CutSt w wx s a3 m false W F (⟨#[]⟩ : ByteArray) a1)
        case first =>
          by_cases e2 : n2 = 0
          · have hfe : F.toList.isEmpty = true := by rw [HFE.out]; simp [e2]
            rw [hfe]
            go_wp2_with fail
            go_meet
            case rel => rw [HA3.out, if_pos e2]; exact hst
          · have hfe : F.toList.isEmpty = false := by rw [HFE.out]; simp [e2]
            rw [hfe]
            go_wp2_with fail
            go_meet
            case rel => rw [HA3.out, if_neg e2]; exact hc2
        case rest =>
          clear hst hc2 q3 q5 qa qf HFE HWE HA3
          have h3 := hcut.s5 a3
          have q5 := hcut.b4.c5
          have q5f := hcut.b4.fz 5
          have qa := hcut.b2.cell
          have qt := h3.b3.cell
          clear hcut
          go_wp2_with fail
          refine (take_any EE s a3 w.heap.size (w.heap.size + 1 + 1) _ (by omega) ha3s h3.b0 h3.b2).mono ?_
          rintro e w5 ⟨rfl, ht5⟩
          have h4 := h3.turned ht5
          clear ht5 h3 q5 q5f qa qt
          obtain ⟨ee, eee⟩ : ∃ ee, ee = hasAt EE s a3 := ⟨_, rfl⟩
          rw [← eee] at h4 ⊢
          obtain ⟨a4, ea4⟩ : ∃ a4, a4 = aFour s := ⟨_, rfl⟩
          have hA4 : a4 = a3 + 1 + (hasAt PM s (a3 + 1)).toNat := by rw [ea4, EA3.out]; rfl
          have hX : expV s = if ee then s.extract a4 (a4 + run s a4) else (⟨#[]⟩ : ByteArray) := by unfold expV; rw [← EA3.out, ← eee, ← ea4]
          have hN3 : expN s = if ee then run s a4 else 0 := by unfold expN; rw [← EA3.out, ← eee, ← ea4]
          have hA5 : aFive s = if ee then a4 + run s a4 else a3 := by unfold aFive; rw [← EA3.out, ← eee, ← ea4]
          have hD : downV s = (ee && negAt s (a3 + 1)) := by unfold downV; rw [← EA3.out, ← eee]
          have hLn : lenV' s = if expN s = 0 then a3 else a4 + expN s := by unfold lenV'; rw [← EA3.out, ← ea4]
          have hes : ee = true → a3 + 1 ≤ s.size := fun h => by rw [eee] at h; exact hasAt_lt h
          have ha4s : ee = true → a4 ≤ s.size := fun h => by
            have := hes h
            rw [hA4]
            cases hp : hasAt PM s (a3 + 1)
            · simpa using this
            · have := hasAt_lt hp; simp; omega
          have HX := hide hX
          have HN3 := hide hN3
          have HA5 := hide hA5
          have HD := hide hD
          have HLN := hide hLn
          have HES := hide hes
          have HA4S := hide ha4s
          have HA4 := hide hA4
          clear hX hN3 hA5 hD hLn hes ha4s hA4 ea4 eee EA3
          go_upto_if 41 with fail
          go_cut [] (fun wx => CutSt w wx s (aFive s) m (downV s) W F (expV s) a3)
          case first =>
            cases ee
            · simp only [Bool.toNat_false, Nat.add_zero] at h4
              go_wp2_with fail
              go_meet
              case rel => rw [HA5.out, HX.out, HD.out]; exact h4
            · simp only [Bool.toNat_true] at h4
              have he1 := HES.out rfl
              have he2 := HA4S.out rfl
              go_wp2_with fail
              refine (minus_any s (a3 + 1) w.heap.size (w.heap.size + 1 + 1) (w.heap.size + 1 + 1 + 1) 72 _ (by omega) he1 (by omega) h4.b0 h4.b2 h4.b3).mono ?_
              rintro e w6 ⟨rfl, ht6⟩
              rw [← HA4.out] at ht6
              have h5 := h4.turned ht6
              have p1 := h5.b4.c1
              have p1f := h5.b4.fz 1
              have h6 := h5.s1 (negAt s (a3 + 1))
              clear ht6 h4 h5
              go_wp2_with fail
              refine (digits_any s a4 w.heap.size (w.heap.size + 1 + 1) _ (by omega) he2 (by omega) h6.b0 h6.b2).mono ?_
              rintro e w7 ⟨rfl, ht7⟩
              have h7 := h6.turned ht7
              have p4 := h7.b4.c4
              have p4f := h7.b4.fz 4
              have h8 := h7.s4 (s.extract a4 (a4 + run s a4))
              clear ht7 h6 h7 p1 p1f
              go_wp2_with fail
              go_meet
              case rel => rw [HA5.out, HX.out, HD.out]; exact h8
          case rest =>
            have hXe : (expV s).toList.isEmpty = decide (expN s = 0) := by
              rw [HX.out, HN3.out]
              cases ee
              · exact e0_empty
              · exact isEmpty_ext s a4 (run s a4) (run_le s a4 (HA4S.out rfl))
            have hA5' : ¬ expN s = 0 → aFive s = a4 + expN s := fun h => by
              rw [HA5.out, HN3.out]
              cases ee
              · exact absurd HN3.out h
              · rfl
            obtain ⟨X, eX⟩ : ∃ X, X = expV s := ⟨_, rfl⟩
            obtain ⟨n3, en3⟩ : ∃ n3, n3 = expN s := ⟨_, rfl⟩
            obtain ⟨a5, ea5⟩ : ∃ a5, a5 = aFive s := ⟨_, rfl⟩
            obtain ⟨dn, edn⟩ : ∃ dn, dn = downV s := ⟨_, rfl⟩
            rw [← eX, ← en3] at hXe
            rw [← ea5, ← en3] at hA5'
            rw [← eX, ← edn, ← ea5] at hcut
            rw [← eX, ← edn] at HRV
            rw [← en3] at HLN
            clear HX HN3 HA5 HD HES HA4S HA4 eX en3 ea5 edn h4
            have q4 := hcut.b4.c4
            by_cases e3 : n3 = 0
            · have hxe : X.toList.isEmpty = true := by rw [hXe]; simp [e3]
              have hlen : lenV' s = a3 := by rw [HLN.out, if_pos e3]
              rw [hlen] at HRV
              have c0 := hcut.b4.c0
              have c1 := hcut.b4.c1
              have c2 := hcut.b4.c2
              have c3 := hcut.b4.c3
              have c5 := hcut.b4.c5
              have f0 := hcut.b1.fz 0
              have f1 := hcut.b1.fz 1
              have f2 := hcut.b1.fz 2
              have f3 := hcut.b1.fz 3
              have f4 := hcut.b1.fz 4
              have f5 := hcut.b1.fz 5
              have z0 := hcut.b1.c0
              have z1 := hcut.b1.c1
              have z2 := hcut.b1.c2
              have z3 := hcut.b1.c3
              have z4 := hcut.b1.c4
              have z5 := hcut.b1.c5
              have hA := hcut.b1.all m dn W F X a3
              have hBel := below_six hcut.bel (g := w.heap.size + 1) (by omega) (.bool m) (.bool dn) (.string W) (.string F) (.string X) (.int .i64 (a3 : Int))
              have y0 := hA.c0
              have y1 := hA.c1
              have y2 := hA.c2
              have y3 := hA.c3
              have y4 := hA.c4
              have y5 := hA.c5
              clear hcut hA HLN hXe hA5' hlen
              go_wp2_with fail
              refine bodyPost_ret (v := .agg (pcells m dn W F X a3)) (by simp [results, Tryz.results75, go_sem, y0, y1, y2, y3, y4, y5]) rfl ⟨by rw [HRV.out], hBel⟩
            · have hxe : X.toList.isEmpty = false := by rw [hXe]; simp [e3]
              have hlen : lenV' s = a5 := by rw [HLN.out, if_neg e3, hA5' e3]
              rw [hlen] at HRV
              have q5 := hcut.b4.c5
              have q5f := hcut.b4.fz 5
              have qa := hcut.b2.cell
              have h9 := hcut.s5 a5
              clear hcut HLN hXe hA5' hlen
              have c0 := h9.b4.c0
              have c1 := h9.b4.c1
              have c2 := h9.b4.c2
              have c3 := h9.b4.c3
              have c4 := h9.b4.c4
              have c5 := h9.b4.c5
              have f0 := h9.b1.fz 0
              have f1 := h9.b1.fz 1
              have f2 := h9.b1.fz 2
              have f3 := h9.b1.fz 3
              have f4 := h9.b1.fz 4
              have f5 := h9.b1.fz 5
              have z0 := h9.b1.c0
              have z1 := h9.b1.c1
              have z2 := h9.b1.c2
              have z3 := h9.b1.c3
              have z4 := h9.b1.c4
              have z5 := h9.b1.c5
              have hA := h9.b1.all m dn W F X a5
              have hBel := below_six h9.bel (g := w.heap.size + 1) (by omega) (.bool m) (.bool dn) (.string W) (.string F) (.string X) (.int .i64 (a5 : Int))
              have y0 := hA.c0
              have y1 := hA.c1
              have y2 := hA.c2
              have y3 := hA.c3
              have y4 := hA.c4
              have y5 := hA.c5
              clear h9 hA
              go_wp2_with fail
              refine bodyPost_ret (v := .agg (pcells m dn W F X a5)) (by simp [results, Tryz.results75, go_sem, y0, y1, y2, y3, y4, y5]) rfl ⟨by rw [HRV.out], hBel⟩
    · have hres := HRES0.out hnb
      have HR := hide hres
      rw [HNO.out] at hnb
      have hz : n1 = 0 ∧ n2 = 0 := by simpa using hnb
      have hwe : W.toList.isEmpty = true := by rw [HWE.out]; simp [hz.1]
      have hfe : F.toList.isEmpty = true := by rw [HFE.out]; simp [hz.2]
      have z0 := hcut.b1.c0
      have z1 := hcut.b1.c1
      have z2 := hcut.b1.c2
      have z3 := hcut.b1.c3
      have z4 := hcut.b1.c4
      have z5 := hcut.b1.c5
      have f0 := hcut.b1.fz 0
      have f1 := hcut.b1.fz 1
      have f2 := hcut.b1.fz 2
      have f3 := hcut.b1.fz 3
      have f4 := hcut.b1.fz 4
      have f5 := hcut.b1.fz 5
      have hA := hcut.b1.all false false (⟨#[]⟩ : ByteArray) (⟨#[]⟩ : ByteArray) (⟨#[]⟩ : ByteArray) 0
      have hBel := below_six hcut.bel (g := w.heap.size + 1) (by omega) (.bool false) (.bool false) (.string (⟨#[]⟩ : ByteArray)) (.string (⟨#[]⟩ : ByteArray)) (.string (⟨#[]⟩ : ByteArray)) (.int .i64 ((0 : Nat) : Int))
      have y0 := hA.c0
      have y1 := hA.c1
      have y2 := hA.c2
      have y3 := hA.c3
      have y4 := hA.c4
      have y5 := hA.c5
      simp only [Int.natCast_zero] at y0 y1 y2 y3 y4 y5 hBel
      clear HNO HRES HRES0 hres hnb hz hcut hA
      go_wp2_with fail
      refine bodyPost_ret (v := .agg (pcells false false (⟨#[]⟩ : ByteArray) (⟨#[]⟩ : ByteArray) (⟨#[]⟩ : ByteArray) 0)) (by simp [results, Tryz.results75, go_sem, y0, y1, y2, y3, y4, y5]) rfl ⟨by rw [HR.out], hBel⟩

end Go.Proofs.YtmnmpfcfdopjnaaGreatDoor

/- What product, round and power answer. -/
namespace Go.Proofs.YtmnmpfcfdopjnaaGreatDoor
open Go.RowKit

theorem info_int : (Tryz.prog.info? 3).map (fun i => (i.zero, i.size, i.bytes)) = some (some (.int .i64 0), 1, 8) := by kernel_rfl

/-- The digit at a place. -/
def dAt (D : ByteArray) (k : Nat) : Int := ((D.data.toList.getD k 0).toNat : Int) - 48
/-- All are digits. -/
def AllD (D : ByteArray) : Prop := ∀ k, k < D.size → 0 ≤ dAt D k ∧ dAt D k ≤ 9
theorem byte_at (D : ByteArray) (k : Nat) (h : k < D.size) : D.data.toList.getD k 0 = D[k] := by simp [List.getD, h]; rfl

/-- The digits of a number times a scale: three more ahead. -/
def ext (D : ByteArray) (sc : Int) (i : Nat) : Int := if i < 3 then 0 else dAt D (i - 3) * sc
def pstep (d : Int) (p : Int × List Int) : Int × List Int := ((p.1 + d) / 10, (p.1 + d) % 10 :: p.2)
/-- What the last j digits come to: the carry, and the digits. -/
def pgo (D : ByteArray) (sc : Int) : Nat → Int × List Int
  | 0 => (0, [])
  | j + 1 => pstep (ext D sc (D.size + 3 - (j + 1))) (pgo D sc j)
def prodV (D : ByteArray) (sc : Int) : List Int := (pgo D sc (D.size + 3)).2

theorem pgo_len (D : ByteArray) (sc : Int) : ∀ j, (pgo D sc j).2.length = j
  | 0 => rfl
  | j + 1 => by show (_ :: (pgo D sc j).2).length = _; simp [pgo_len D sc j]
theorem ext_bd {D : ByteArray} {sc : Int} (h : AllD D) (h0 : 1 ≤ sc) (h1 : sc ≤ 1000) (i : Nat) (hi : i < D.size + 3) : 0 ≤ ext D sc i ∧ ext D sc i ≤ 9000 := by
  unfold ext
  split
  · omega
  · have hd := h (i - 3) (by omega)
    constructor
    · exact Int.mul_nonneg hd.1 (by omega)
    · have := Int.mul_le_mul hd.2 h1 (by omega) (by omega : (0 : Int) ≤ 9)
      omega
theorem pgo_bd {D : ByteArray} {sc : Int} (h : AllD D) (h0 : 1 ≤ sc) (h1 : sc ≤ 1000) : ∀ j, j ≤ D.size + 3 → 0 ≤ (pgo D sc j).1 ∧ (pgo D sc j).1 ≤ 1000
  | 0, _ => by show 0 ≤ (0 : Int) ∧ (0 : Int) ≤ 1000; omega
  | j + 1, hj => by
    have ih := pgo_bd h h0 h1 j (by omega)
    have he := ext_bd h h0 h1 (D.size + 3 - (j + 1)) (by omega)
    show 0 ≤ ((pgo D sc j).1 + ext D sc (D.size + 3 - (j + 1))) / 10 ∧ ((pgo D sc j).1 + ext D sc (D.size + 3 - (j + 1))) / 10 ≤ 1000
    omega
/-- The row when the last j digits are laid. -/
def prow (D : ByteArray) (sc : Int) (j : Nat) : List Int := List.replicate (D.size + 3 - j) 0 ++ (pgo D sc j).2
theorem prow_set (D : ByteArray) (sc : Int) (j : Nat) (hj : j < D.size + 3) : (prow D sc j).set (D.size + 3 - (j + 1)) (((pgo D sc j).1 + ext D sc (D.size + 3 - (j + 1))) % 10) = prow D sc (j + 1) := by
  unfold prow
  obtain ⟨m, hm⟩ : ∃ m, D.size + 3 - j = m + 1 := ⟨D.size + 3 - j - 1, by omega⟩
  have h2 : D.size + 3 - (j + 1) = m := by omega
  rw [h2, hm, List.replicate_succ', List.append_assoc, List.set_append_right _ _ (by simp)]
  simp only [List.length_replicate, Nat.sub_self, List.singleton_append, List.set_cons_zero]
  show _ = List.replicate m 0 ++ (_ :: (pgo D sc j).2)
  rw [h2]
theorem prow_len (D : ByteArray) (sc : Int) (j : Nat) (hj : j ≤ D.size + 3) : (prow D sc j).length = D.size + 3 := by simp [prow, pgo_len]; omega

set_option maxRecDepth 100000 in
set_option maxHeartbeats 2000000 in
theorem product_any (D : ByteArray) (sc : Int) (w : World) (hD : AllD D) (hs : D.size ≤ 100000) (h0 : 1 ≤ sc) (h1 : sc ≤ 1000) :
    Calls Tryz.prog 76 #[.string D, .int .i64 sc] w fun e w' => ∃ v, e = .returned v ∧ Reads w' v (prodV D sc) ∧ (∃ g, v = .slice (some ⟨g, 0, none⟩) (D.size + 3) (D.size + 3)) ∧ Below w.heap.size w w' := by
  obtain ⟨N, hN⟩ : ∃ N, N = D.size + 3 := ⟨_, rfl⟩
  have hmk := run_make_row' (P := Tryz.prog) 110 3 (.int .i64 0) 8 Tryz.underlying110 info_int rfl .i64 .i64 N (by omega) (by omega)
  have hNi : ((D.size : Int) + 3) = (N : Int) := by omega
  have HN := hide hN
  have hN3 : 3 ≤ N := by omega
  have hNb : N ≤ 100003 := by omega
  clear hN
  go_enter Tryz.func76, Tryz.ntmps76
  go_wp2_with fail
  go_loopw [6, 7] (fun c i wr => ∃ (j : Nat) (c0 : Int), j ≤ N ∧ i = .int .i64 ((N : Int) - j - 1) ∧ c = .int .i64 c0 ∧ Hid (c0 = (pgo D sc j).1) ∧ 0 ≤ c0 ∧ c0 ≤ 1000 ∧ wr.ownsRow w.heap.size 3 1 (.slice (some ⟨w.heap.size, 0, none⟩) N N) N ((prow D sc j).map (Value.int .i64)) ∧ Below w.heap.size w wr) (fun _ i _ => (intOf i + 1).toNat)
  case atStart =>
    refine ⟨0, 0, Nat.zero_le _, by go_num, rfl, rfl, by omega, by omega, ?_, (Below.refl _ _).alloc (Nat.le_refl _) _⟩
    have h := World.ownsRow_lit (base := w.heap.size) (e := 3) (size := 1) w (madeCells #[.int .i64 0] N) N (Nat.le_refl _) (by unfold maxLen; omega) (by rw [size_madeCells]; omega)
    rw [toList_madeCells_one] at h
    have e : prow D sc 0 = List.replicate N 0 := by unfold prow; rw [← HN.out]; show List.replicate N 0 ++ [] = _; simp
    rw [e, List.map_replicate]
    exact h
  case round =>
    obtain ⟨j, c0, hj, rfl, rfl, HC, hc0, hc1, hown, hB⟩ := hrel
    by_cases hlt : j < N
    · obtain ⟨i, hi⟩ : ∃ i : Nat, (i : Int) = (N : Int) - j - 1 := ⟨N - j - 1, by omega⟩
      have hiN : i = D.size + 3 - (j + 1) := by have := HN.out; omega
      have hset := prow_set D sc j (by rw [← HN.out]; exact hlt)
      have hnext := pgo_bd hD h0 h1 (j + 1) (by rw [← HN.out]; omega)
      have hstep : (pgo D sc (j + 1)).1 = (c0 + ext D sc i) / 10 := by rw [HC.out, hiN]; rfl
      have hx := ext_bd hD h0 h1 i (by rw [← HN.out]; omega)
      rw [← hiN, ← HC.out] at hset
      have hst := hown.stored i (.int .i64 ((c0 + ext D sc i) % 10))
      rw [← List.map_set, hset] at hst
      have hcell : wr.cell? ⟨w.heap.size, i, none⟩ = some (.int .i64 ((prow D sc j).getD i 0)) := by
        rw [hown.cellAt i (by omega)]
        have : i < (prow D sc j).length := by rw [prow_len D sc j (by rw [← HN.out]; omega), ← HN.out]; omega
        simp [List.getD, this]
      have hf := hown.frozenAt i
      have hb2 := hB.setCell (p := ⟨w.heap.size, i, none⟩) (Nat.le_refl _) (.int .i64 ((c0 + ext D sc i) % 10))
      generalize (prow D sc j).getD i 0 = old at *
      have hii : (N : Int) - (j : Int) - 1 = (i : Int) := by omega
      have hi0 : (0 : Int) ≤ (i : Int) := by omega
      have hiN2 : i < N := by omega
      rw [hii]
      rw [hstep] at hnext
      have HST := hide hstep
      have hst1 := hst.1
      have HO := hide hst1
      have HB2 := hide hb2
      have hn0 := hnext.1
      have hn1 := hnext.2
      clear hset hst hst1 hb2 hown hB hii hnext hstep
      by_cases h3 : 3 ≤ i
      · have h3' : (3 : Int) ≤ (i : Int) := by omega
        obtain ⟨d, hd⟩ : ∃ d : Nat, i = d + 3 := ⟨i - 3, by omega⟩
        have hdD : d < D.size := by have := HN.out; omega
        have hdg := hD d hdD
        have hex : ext D sc i = dAt D d * sc := by unfold ext; rw [if_neg (by omega), hd]; simp
        have hdv : dAt D d = (D[d].toNat : Int) - 48 := by unfold dAt; rw [byte_at D d hdD]
        rw [hdv] at hdg hex
        rw [hex] at HST HO HB2 hn0 hn1 hx
        have hm0 := hx.1
        have hm1 := hx.2
        have hg0 := hdg.1
        have hg1 := hdg.2
        have hidx : (i : Int) - 3 = (d : Int) := by omega
        have hi' : (i : Int) = (N : Int) - (j : Int) - 1 := by omega
        have HI := hide hi'
        clear hex hdv hdg hx hiN hd hi hi'
        go_wp2_with fail
        go_roundw
        case rel => exact ⟨j + 1, _, by omega, by have := HI.out; go_num, rfl, HST.out.symm, hn0, hn1, HO.out, HB2.out⟩
        case measure => have := HI.out; simp [intOf]
      · have h3' : ¬ (3 : Int) ≤ (i : Int) := by omega
        have hex : ext D sc i = 0 := by unfold ext; rw [if_pos (by omega)]
        rw [hex, Int.add_zero] at HST HO HB2 hn0 hn1
        have hi' : (i : Int) = (N : Int) - (j : Int) - 1 := by omega
        have HI := hide hi'
        clear hex hx hiN hi hi'
        go_wp2_with fail
        go_roundw
        case rel => exact ⟨j + 1, _, by omega, by have := HI.out; go_num, rfl, HST.out.symm, hn0, hn1, HO.out, HB2.out⟩
        case measure => have := HI.out; simp [intOf]
    · have hjN : j = N := by omega
      have e : prow D sc j = prodV D sc := by rw [hjN, HN.out]; unfold prow prodV; simp
      rw [e] at hown
      have R := reads_owns hown
      have HR := hide R
      have hneg : ¬ (0 : Int) ≤ (N : Int) - (j : Int) - 1 := by omega
      have hDN : D.size + 3 = N := HN.out.symm
      have HDN := hide hDN
      clear hown e R hjN hDN
      go_wp2_with fail
      go_ret
      exact ⟨_, rfl, HR.out, ⟨_, by rw [HDN.out]; rfl⟩, hB⟩

/-- The digit at a place, 0 beyond. -/
def ldig (L : List Int) (i : Int) : Int := if i < 0 then 0 else L.getD i.toNat 0
theorem ldig_out {L : List Int} {i : Int} (h : i < 0 ∨ (L.length : Int) ≤ i) : ldig L i = 0 := by
  unfold ldig
  split
  · rfl
  · rw [List.getD_eq_getElem?_getD, List.getElem?_eq_none (by omega)]; rfl

set_option maxHeartbeats 1000000 in
theorem digit_any (i : Int) (v : Value) (L : List Int) (b : Nat) (w : World) (hb : Boxed w b 110 v) (hr : Reads w v L) (hv : ∃ a n c, v = .slice (some a) n c ∧ n = L.length) (hl : L.length ≤ 9223372036854775807) :
    Calls Tryz.prog 110 #[.int .i64 i, .pointer (some ⟨b, 0, none⟩)] w fun e w' => e = .returned (.int .i64 (ldig L i)) ∧ w' = w := by
  have c := hb.cell
  obtain ⟨a, n, cp, rfl, hn⟩ := hv
  by_cases h1 : i < 0
  · rw [ldig_out (.inl h1)]
    clear hr hn hl
    go_enter Tryz.func110, Tryz.ntmps110
    go_wp2_with fail
    go_ret
    exact ⟨rfl, rfl⟩
  · by_cases h2 : (n : Int) ≤ i
    · rw [ldig_out (.inr (by omega))]
      clear hr hn hl
      go_enter Tryz.func110, Tryz.ntmps110
      go_wp2_with fail
      go_ret
      exact ⟨rfl, rfl⟩
    · obtain ⟨k, rfl⟩ := Int.eq_ofNat_of_zero_le (show 0 ≤ i by omega)
      rcases hr with ⟨rfl, _⟩ | ⟨b3, off, cap, hv, hlt, hc⟩
      · simp at hn; omega
      · simp only [Value.slice.injEq, Option.some.injEq] at hv
        obtain ⟨rfl, _, _⟩ := hv
        have hck := hc k (by omega)
        have e : ldig L (k : Int) = L.getD k 0 := by unfold ldig; rw [if_neg (by omega)]; simp
        rw [e]
        generalize L.getD k 0 = y at *
        have h2' : ¬ (n : Int) ≤ (k : Int) := h2
        have h3 : (k : Int) < (n : Int) := by omega
        clear hc hn hl
        go_enter Tryz.func110, Tryz.ntmps110
        go_wp2_with fail
        go_ret
        exact ⟨rfl, rfl⟩

end Go.Proofs.YtmnmpfcfdopjnaaGreatDoor

/- What round, power and isScale answer. -/
namespace Go.Proofs.YtmnmpfcfdopjnaaGreatDoor
open Go.RowKit

/-- The whole number next to that whose point stands behind so many digits; one beyond 2^36 ends it. -/
def rrec (L : List Int) (pt : Int) : Nat → Nat → Int → Int
  | 0, _, n => if 5 ≤ ldig L pt then n + 1 else n
  | r + 1, k, n => if 68719476736 < n * 10 + ldig L k then n * 10 + ldig L k else rrec L pt r (k + 1) (n * 10 + ldig L k)
def roundV (L : List Int) (pt : Int) : Int := rrec L pt pt.toNat 0 0
theorem rrec_big {L : List Int} {pt : Int} {r k : Nat} {n : Int} (h : 68719476736 < n * 10 + ldig L k) : rrec L pt (r + 1) k n = n * 10 + ldig L k := by unfold rrec; rw [if_pos h]
theorem rrec_on {L : List Int} {pt : Int} {r k : Nat} {n : Int} (h : ¬ 68719476736 < n * 10 + ldig L k) : rrec L pt (r + 1) k n = rrec L pt r (k + 1) (n * 10 + ldig L k) := by
  show (if 68719476736 < n * 10 + ldig L k then n * 10 + ldig L k else rrec L pt r (k + 1) (n * 10 + ldig L k)) = _
  rw [if_neg h]
theorem rrec_end {L : List Int} {pt : Int} {k : Nat} {n : Int} : rrec L pt 0 k n = if 5 ≤ ldig L pt then n + 1 else n := rfl

/-- All of a list are digits. -/
def LD (L : List Int) : Prop := ∀ i : Int, 0 ≤ ldig L i ∧ ldig L i ≤ 9

set_option maxRecDepth 100000 in
set_option maxHeartbeats 2000000 in
theorem round_any (v : Value) (L : List Int) (pt : Int) (w : World) (hr : Reads w v L) (hv : ∃ a n c, v = .slice (some a) n c ∧ n = L.length) (hl : L.length ≤ 9223372036854775807) (hL : LD L) (hp : pt ≤ 1000000) :
    Calls Tryz.prog 77 #[v, .int .i64 pt] w fun e w' => e = .returned (.int .i64 (roundV L pt)) ∧ Below w.heap.size w w' := by
  have hv' := hv
  obtain ⟨a, nn, cp, rfl, hnn⟩ := hv
  have hdig : ∀ i w', w' = w.alloc (.cells #[.slice (some a) nn cp] 110) → Calls Tryz.prog 110 #[.int .i64 i, .pointer (some ⟨w.heap.size, 0, none⟩)] w' fun e w2 => e = .returned (.int .i64 (ldig L i)) ∧ w2 = w' := by
    intro i w' e
    subst e
    exact digit_any i _ L w.heap.size _ (Boxed.new w _ _) (hr.below ((Below.refl _ _).alloc (Nat.le_refl _) _)) hv' hl
  have HD := hide hdig
  obtain ⟨P, hP⟩ : ∃ P, P = pt.toNat := ⟨_, rfl⟩
  have hPb : P ≤ 1000000 := by omega
  have hPi : pt = (P : Int) ∨ (pt < 0 ∧ P = 0) := by omega
  have hRV : roundV L pt = rrec L pt P 0 0 := by unfold roundV; rw [hP]
  have HRV := hide hRV
  clear hdig hr hv' hnn hl hP hRV
  go_enter Tryz.func77, Tryz.ntmps77
  go_wp2_with fail
  go_loop [6, 10] (fun t i => ∃ (k : Nat) (n : Int), k ≤ P ∧ i = .int .i64 k ∧ t = .int .i64 n ∧ 0 ≤ n ∧ n ≤ 68719476736 ∧ Hid (roundV L pt = rrec L pt (P - k) k n)) (fun _ i => P - (intOf i).toNat)
  case atStart => exact ⟨0, 0, Nat.zero_le _, rfl, rfl, by omega, by omega, HRV⟩
  case round =>
    obtain ⟨k, n, hk, rfl, rfl, hn0, hn1, HR⟩ := hrel
    by_cases hlt : k < P
    · have hi : (k : Int) < pt := by omega
      have hd := hL (k : Int)
      have cd := HD.out (k : Int)
      obtain ⟨r, hr⟩ : ∃ r, P - k = r + 1 := ⟨P - k - 1, by omega⟩
      have hr2 : P - (k + 1) = r := by omega
      have hR := HR.out
      rw [hr] at hR
      by_cases hbig : 68719476736 < n * 10 + ldig L k
      · rw [rrec_big hbig] at hR
        generalize ldig L k = y at *
        have CD := hide cd
        have HR2 := hide hR
        have hd0 := hd.1
        have hd1 := hd.2
        clear cd hR HR hd HRV hr hr2
        go_wp2_with fail
        refine (unhide CD _ rfl).mono ?_
        rintro e w2 ⟨rfl, rfl⟩
        go_wp2_with fail
        go_ret
        exact ⟨by rw [HR2.out]; rfl, (Below.refl _ _).alloc (Nat.le_refl _) _⟩
      · rw [rrec_on hbig, ← hr2] at hR
        generalize ldig L k = y at *
        have CD := hide cd
        have HR2 := hide hR
        have hd0 := hd.1
        have hd1 := hd.2
        clear cd hR HR hd HRV hr hr2
        go_wp2_with fail
        refine (unhide CD _ rfl).mono ?_
        rintro e w2 ⟨rfl, rfl⟩
        go_wp2_with fail
        go_round
        case rel => exact ⟨k + 1, n * 10 + y, by omega, by go_num, rfl, by omega, by omega, HR2⟩
        case measure => simp [intOf]; omega
    · have hi : ¬ (k : Int) < pt := by omega
      have hR := HR.out
      rw [show P - k = 0 by omega, rrec_end] at hR
      have hd := hL pt
      have cd := HD.out pt
      generalize ldig L pt = y at *
      have CD := hide cd
      have hd0 := hd.1
      have hd1 := hd.2
      by_cases h5 : 5 ≤ y
      · rw [if_pos h5] at hR
        have HR2 := hide hR
        clear cd hR HR hd HRV
        go_wp2_with fail
        refine (unhide CD _ rfl).mono ?_
        rintro e w2 ⟨rfl, rfl⟩
        go_wp2_with fail
        go_ret
        exact ⟨by rw [HR2.out]; rfl, (Below.refl _ _).alloc (Nat.le_refl _) _⟩
      · rw [if_neg h5] at hR
        have HR2 := hide hR
        clear cd hR HR hd HRV
        go_wp2_with fail
        refine (unhide CD _ rfl).mono ?_
        rintro e w2 ⟨rfl, rfl⟩
        go_wp2_with fail
        go_ret
        exact ⟨by rw [HR2.out]; rfl, (Below.refl _ _).alloc (Nat.le_refl _) _⟩

/-- The exponent as a number, kept within 1000. -/
def powGo (X : ByteArray) : Nat → Int
  | 0 => 0
  | k + 1 => if powGo X k * 10 + dAt X k < 1000 then powGo X k * 10 + dAt X k else 1000
def powV (d : Bool) (X : ByteArray) : Int := if d then -(powGo X X.size) else powGo X X.size
theorem powGo_bd {X : ByteArray} (h : AllD X) : ∀ k, k ≤ X.size → 0 ≤ powGo X k ∧ powGo X k ≤ 1000
  | 0, _ => by show 0 ≤ (0 : Int) ∧ (0 : Int) ≤ 1000; omega
  | k + 1, hk => by
    have ih := powGo_bd h k (by omega)
    have hd := h k (by omega)
    show 0 ≤ (if powGo X k * 10 + dAt X k < 1000 then powGo X k * 10 + dAt X k else 1000) ∧ (if powGo X k * 10 + dAt X k < 1000 then powGo X k * 10 + dAt X k else 1000) ≤ 1000
    split <;> omega
theorem ret_i {a a' : Int} (h : a = a') : Ending.returned (.int .i64 a) = .returned (.int .i64 a') := by rw [h]

set_option maxRecDepth 100000 in
set_option maxHeartbeats 2000000 in
theorem power_any (m d : Bool) (W F X : ByteArray) (len : Nat) (w : World) (hX : AllD X) (hs : X.size ≤ 9223372036854775000) :
    Calls Tryz.prog 78 #[.agg (pcells m d W F X len)] w fun e w' => e = .returned (.int .i64 (powV d X)) ∧ Below w.heap.size w w' := by
  have hP : PAt (w.alloc (.cells (pcells m d W F X len) 108)) w.heap.size m d W F X len := heap_alloc_new w _
  have c1 := hP.c1
  have c4 := hP.c4
  have hpv : powV d X = if d then -(powGo X X.size) else powGo X X.size := rfl
  have HPV := hide hpv
  clear hP hpv
  go_enter Tryz.func78, Tryz.ntmps78
  go_wp2_with fail
  go_loop [3, 8] (fun t i => ∃ (k : Nat) (n : Int), k ≤ X.size ∧ i = .int .i64 k ∧ t = .int .i64 n ∧ 0 ≤ n ∧ n ≤ 1000 ∧ Hid (n = powGo X k)) (fun _ i => X.size - (intOf i).toNat)
  case atStart => exact ⟨0, 0, Nat.zero_le _, rfl, rfl, by omega, by omega, rfl⟩
  case round =>
    obtain ⟨k, n, hk, rfl, rfl, hn0, hn1, HN⟩ := hrel
    by_cases hlt : k < X.size
    · have hi : (k : Int) < (X.size : Int) := by omega
      have hd := hX k hlt
      have hst : powGo X (k + 1) = if n * 10 + dAt X k < 1000 then n * 10 + dAt X k else 1000 := by rw [HN.out]; rfl
      have hdv : dAt X k = (X[k].toNat : Int) - 48 := by unfold dAt; rw [byte_at X k hlt]
      rw [hdv] at hd hst
      have hd0 := hd.1
      have hd1 := hd.2
      have HST := hide hst
      clear hst hdv hd
      go_wp2_with fail
      go_round
      case rel => exact ⟨k + 1, _, by omega, by go_num, rfl, by omega, by omega, by show min _ _ = _; rw [HST.out]; split <;> omega⟩
      case measure => simp [intOf]; omega
    · have hkk : k = X.size := by omega
      have hi : ¬ (k : Int) < (X.size : Int) := by omega
      have hnn : n = powGo X X.size := by rw [HN.out, hkk]
      have HNN := hide hnn
      clear HN hnn hkk
      cases d
      · go_wp2_with fail
        go_ret
        exact ⟨ret_i (by rw [HPV.out]; exact HNN.out), (Below.refl _ _).alloc (Nat.le_refl _) _⟩
      · go_wp2_with fail
        go_ret
        exact ⟨ret_i (by rw [HPV.out]; show -n = -(powGo X X.size); rw [HNN.out]), (Below.refl _ _).alloc (Nat.le_refl _) _⟩

end Go.Proofs.YtmnmpfcfdopjnaaGreatDoor

/- Plain facts on quotients and wraps: no Go in sight. -/
namespace Go.Proofs.YtmnmpfcfdopjnaaGreatDoor
open Go.RowKit

theorem wrap64_id {n : Int} (h1 : -9223372036854775808 ≤ n) (h2 : n ≤ 9223372036854775807) : wrap64 n = n := by unfold wrap64; omega
theorem wrap64_lo (n : Int) : -9223372036854775808 ≤ wrap64 n := by unfold wrap64; omega
theorem wrap64_hi (n : Int) : wrap64 n ≤ 9223372036854775807 := by unfold wrap64; omega
theorem wrap64_off (x : Int) : ∃ k : Int, wrap64 x = x - 18446744073709551616 * k := ⟨(x + 9223372036854775808) / 18446744073709551616, by unfold wrap64; omega⟩
theorem wrap64_turn (x k : Int) : wrap64 (x - 18446744073709551616 * k) = wrap64 x := by unfold wrap64; omega
theorem wrap64_mul (x b : Int) : wrap64 (wrap64 x * b) = wrap64 (x * b) := by
  obtain ⟨k, hk⟩ := wrap64_off x
  rw [hk, Int.sub_mul, Int.mul_assoc, wrap64_turn]
theorem wrap64_sub (a x : Int) : wrap64 (a - wrap64 x) = wrap64 (a - x) := by unfold wrap64; omega
theorem wrap64_add (a x : Int) : wrap64 (a + wrap64 x) = wrap64 (a + x) := by unfold wrap64; omega
theorem wrap64_add' (a x : Int) : wrap64 (wrap64 x + a) = wrap64 (x + a) := by unfold wrap64; omega
theorem wrap64_sub' (a x : Int) : wrap64 (wrap64 x - a) = wrap64 (x - a) := by unfold wrap64; omega

/-- Does the quotient towards 0 lie above the one that is rounded down? -/
def ruB (a b : Int) : Bool := a.tmod b != 0 && !(decide (a.tmod b < 0) == decide (b < 0))

/-- The quotient rounded down, as int's arithmetic has it; 0 by 0. -/
def gdiv (a b : Int) : Int := if b = 0 then 0 else if ruB a b then wrap64 (wrap64 (a.tdiv b) - 1) else wrap64 (a.tdiv b)
/-- What is left of it. -/
def gmod (a b : Int) : Int := if b = 0 then a else if ruB a b then wrap64 (a.tmod b + b) else a.tmod b

theorem tmod_neg {a b : Int} (h : a.tmod b ≠ 0) : (a.tmod b < 0) ↔ a < 0 := by
  constructor
  · intro h1
    by_cases h2 : a < 0
    · exact h2
    · have := Int.tmod_nonneg b (Int.not_lt.1 h2); omega
  · intro h1
    have h2 : 0 ≤ (-a).tmod b := Int.tmod_nonneg b (by omega)
    rw [Int.neg_tmod] at h2
    omega

theorem ruB_alt (a b : Int) : ruB a b = (a.tmod b != 0 && !(decide (a < 0) == decide (b < 0))) := by
  unfold ruB
  by_cases h : a.tmod b = 0
  · simp [h]
  · have := tmod_neg h
    simp only [this]

theorem ruB_one (a : Int) : ruB a (-1) = false := by simp [ruB, Int.tmod_neg]

theorem gdiv_minus (a : Int) : gdiv a (-1) = wrap64 (0 - a) := by
  simp [gdiv, ruB_one, Int.tdiv_neg]

/-- In whole numbers: rounded down. -/
theorem ru_fdiv (a b : Int) (hb : b ≠ 0) : (if ruB a b then a.tdiv b - 1 else a.tdiv b) = a.fdiv b := by
  have e : a.tmod b = 0 ↔ b ∣ a := Int.dvd_iff_tmod_eq_zero.symm
  rw [Int.tdiv_eq_ediv, Int.fdiv_eq_ediv, ruB_alt]
  by_cases hd : b ∣ a
  · have : a.tmod b = 0 := e.2 hd
    simp [this, hd]
  · have hne : a.tmod b ≠ 0 := fun h => hd (e.1 h)
    by_cases ha : a < 0
    · by_cases hb0 : b < 0
      · have : ¬ 0 ≤ a := by omega
        have h2 : ¬ 0 ≤ b := by omega
        simp [hd, ha, hb0, this, h2, Int.sign_eq_neg_one_of_neg hb0]; omega
      · have : ¬ 0 ≤ a := by omega
        have h2 : 0 ≤ b := by omega
        have h3 : 0 < b := by omega
        simp [hne, hd, ha, hb0, this, h2, Int.sign_eq_one_of_pos h3]
    · have h1 : 0 ≤ a := by omega
      by_cases hb0 : b < 0
      · have h2 : ¬ 0 ≤ b := by omega
        simp [hne, hd, ha, hb0, h1, h2]
      · have h2 : 0 ≤ b := by omega
        simp [hd, ha, hb0, h1, h2]

theorem gdiv_fdiv (a b : Int) (hb : b ≠ 0) : gdiv a b = wrap64 (a.fdiv b) := by
  rw [← ru_fdiv a b hb]
  unfold gdiv
  rw [if_neg hb]
  split
  · rw [wrap64_sub']
  · rfl

theorem ru_fmod (a b : Int) (hb : b ≠ 0) : (if ruB a b then a.tmod b + b else a.tmod b) = a.fmod b := by
  have h := ru_fdiv a b hb
  have ht := Int.mul_tdiv_add_tmod a b
  have hf := Int.mul_fdiv_add_fmod a b
  rw [← h] at hf
  revert hf
  split
  · intro hf
    rw [Int.mul_sub] at hf
    omega
  · intro hf; omega

theorem tmod_small (a b : Int) (hb : b ≠ 0) : (a.tmod b).natAbs < b.natAbs := by
  rw [Int.natAbs_tmod]; exact Nat.mod_lt _ (by omega)

/-- What is left lies between 0 and the divisor. -/
theorem fmod_range (a b : Int) (hb : b ≠ 0) : (0 < b → 0 ≤ a.fmod b ∧ a.fmod b < b) ∧ (b < 0 → a.fmod b ≤ 0 ∧ b < a.fmod b) := by
  rw [← ru_fmod a b hb]
  have h2 := tmod_small a b hb
  cases h : ruB a b <;> simp [ruB] at h ⊢ <;> omega

theorem gmod_fmod (a b : Int) (hb : b ≠ 0) (hl : -9223372036854775808 ≤ b) (hh : b ≤ 9223372036854775807) : gmod a b = a.fmod b := by
  have hr := fmod_range a b hb
  have h := ru_fmod a b hb
  unfold gmod
  rw [if_neg hb]
  cases hc : ruB a b <;> simp [hc] at h ⊢
  · exact h
  · rw [wrap64_id] <;> omega

theorem gmod_alt (a b : Int) (hb : b ≠ 0) (hl : -9223372036854775808 ≤ b) (hh : b ≤ 9223372036854775807) : gmod a b = wrap64 (a - wrap64 (gdiv a b * b)) := by
  have hr := fmod_range a b hb
  rw [gdiv_fdiv a b hb, wrap64_mul, wrap64_sub, gmod_fmod a b hb hl hh]
  have hf := Int.fdiv_mul_add_fmod a b
  have e : a - a.fdiv b * b = a.fmod b := by omega
  rw [e, wrap64_id] <;> omega

/-- Of a number from 0 on by a positive one both are the plain ones. -/
theorem gdiv_nat {a b : Int} (ha : 0 ≤ a) (hb : 0 < b) (hl : a ≤ 9223372036854775807) : gdiv a b = a / b := by
  rw [gdiv_fdiv a b (by omega), Int.fdiv_eq_ediv_of_nonneg a (by omega)]
  have h1 : 0 ≤ a / b := Int.ediv_nonneg ha (by omega)
  have h2 : a / b ≤ a := Int.ediv_le_self b ha
  rw [wrap64_id] <;> omega
theorem gmod_nat {a b : Int} (hb : 0 < b) (hl : b ≤ 9223372036854775807) : gmod a b = a % b := by
  rw [gmod_fmod a b (by omega) (by omega) hl, Int.fmod_eq_emod_of_nonneg a (by omega)]

end Go.Proofs.YtmnmpfcfdopjnaaGreatDoor
