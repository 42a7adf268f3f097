/-
  No cell of these rows narrows 'for every input' (looked for: loops, veiled, ifaces, maps, wideKeys, modest, calm, conditions, laid).
  DERIVED. THE GIVEN ROWS OF THIS SEAT. 6 by the template 'for every input the law returns true; each argument reads behind the call as it read before'; 0 by the template 'total and deterministic' (their statements: YtpfdpkfbdenapaaTotals.lean).
  GIVEN WITH THE SEED: the statements are not yours to turn. If you find one false, say at which input.
  Laid BY PROGRAM, IN A SANDBOX (cutbox-rows.mjs): the forced cells as the released guide's own fill.sh prints them over the translation 04620cebc66f63f0… (all of the seat's roots in one cut). By AI agents, Wed Nov 11 2026. No macro, syntax, notation, axiom, sorry.
-/
import Derived.Test.YtpfdpkfbdenapaaChecked
import GoSem.Claim
import GoSem.ClaimJoined
import GoSem.ClaimMapViews
import Derived.JoinedTies
import Derived.KernelRfl
namespace Go.Proofs.Ytpfdpkfbdenapaa
/- THE CELL 'sum', in the pinned program and in every row, IS THE sha256 OF THE DUMP (.gsa) THAT YtpfdpkfbdenapaaProg.lean LOADS. Nothing in Lean hashes anything: it is a label: what it is worth is what the hold of that sum in a sandbox is worth. -/
noncomputable def Try.pinned : Pinned := { name := "ytpfdpkfbdenapaa", sum := "04620cebc66f63f0fd6064df05581854cde8787de6e494d0bd57d851895a66cb", checked := Try.checked }
namespace Rows
def none {H : Type} : Left H := { results := [], args := [] }

/-- 'parterrelaw19.OccupyOverlaps': WHATEVER THE INPUT: true; the input reads as it did. -/
def occupyOverlapsSpec : ChangeSpec := { name := "occupyOverlaps", fn := fun _ => fun
  | [d1, d2, d3] => { results := [.lit (.bool true)], args := [d1, d2, d3] }
  | _ => none }
def occupyOverlapsRow : OpenClaim := { program := "ytpfdpkfbdenapaa", sum := "04620cebc66f63f0fd6064df05581854cde8787de6e494d0bd57d851895a66cb", func := "parterre/parterrelaw19.OccupyOverlaps", spec := "occupyOverlaps", unfollowed := true, recurses := true, plainKeys := false, apart := false }
def OccupyOverlapsSaid : Prop := occupyOverlapsRow.holds Try.pinned (OpenSpec.ofChange occupyOverlapsSpec)

/-- ITS FALSE NEIGHBOUR: 'it returns false'. Refute it at one input. -/
def occupyOverlapsWrong : ChangeSpec := { name := "occupyOverlaps", fn := fun _ => fun
  | [d1, d2, d3] => { results := [.lit (.bool false)], args := [d1, d2, d3] }
  | _ => none }
def OccupyOverlapsWrongFalsely : Prop := occupyOverlapsRow.holds Try.pinned (OpenSpec.ofChange occupyOverlapsWrong)

/-- 'parterrelaw19.OccupyNext': WHATEVER THE INPUT: true; the input reads as it did. -/
def occupyNextSpec : ChangeSpec := { name := "occupyNext", fn := fun _ => fun
  | [d1, d2, d3] => { results := [.lit (.bool true)], args := [d1, d2, d3] }
  | _ => none }
def occupyNextRow : OpenClaim := { program := "ytpfdpkfbdenapaa", sum := "04620cebc66f63f0fd6064df05581854cde8787de6e494d0bd57d851895a66cb", func := "parterre/parterrelaw19.OccupyNext", spec := "occupyNext", unfollowed := true, recurses := true, plainKeys := false, apart := false }
def OccupyNextSaid : Prop := occupyNextRow.holds Try.pinned (OpenSpec.ofChange occupyNextSpec)

/-- ITS FALSE NEIGHBOUR: 'it returns false'. Refute it at one input. -/
def occupyNextWrong : ChangeSpec := { name := "occupyNext", fn := fun _ => fun
  | [d1, d2, d3] => { results := [.lit (.bool false)], args := [d1, d2, d3] }
  | _ => none }
def OccupyNextWrongFalsely : Prop := occupyNextRow.holds Try.pinned (OpenSpec.ofChange occupyNextWrong)

/-- 'parterrelaw19.OccupyNear': WHATEVER THE INPUT: true; the input reads as it did. -/
def occupyNearSpec : ChangeSpec := { name := "occupyNear", fn := fun _ => fun
  | [d1, d2, d3] => { results := [.lit (.bool true)], args := [d1, d2, d3] }
  | _ => none }
def occupyNearRow : OpenClaim := { program := "ytpfdpkfbdenapaa", sum := "04620cebc66f63f0fd6064df05581854cde8787de6e494d0bd57d851895a66cb", func := "parterre/parterrelaw19.OccupyNear", spec := "occupyNear", unfollowed := true, recurses := true, plainKeys := false, apart := false }
def OccupyNearSaid : Prop := occupyNearRow.holds Try.pinned (OpenSpec.ofChange occupyNearSpec)

/-- ITS FALSE NEIGHBOUR: 'it returns false'. Refute it at one input. -/
def occupyNearWrong : ChangeSpec := { name := "occupyNear", fn := fun _ => fun
  | [d1, d2, d3] => { results := [.lit (.bool false)], args := [d1, d2, d3] }
  | _ => none }
def OccupyNearWrongFalsely : Prop := occupyNearRow.holds Try.pinned (OpenSpec.ofChange occupyNearWrong)

/-- 'parterrelaw19.OccupyTurned': WHATEVER THE INPUT: true; the input reads as it did. -/
def occupyTurnedSpec : ChangeSpec := { name := "occupyTurned", fn := fun _ => fun
  | [d1, d2, d3] => { results := [.lit (.bool true)], args := [d1, d2, d3] }
  | _ => none }
def occupyTurnedRow : OpenClaim := { program := "ytpfdpkfbdenapaa", sum := "04620cebc66f63f0fd6064df05581854cde8787de6e494d0bd57d851895a66cb", func := "parterre/parterrelaw19.OccupyTurned", spec := "occupyTurned", unfollowed := true, recurses := true, plainKeys := false, apart := false }
def OccupyTurnedSaid : Prop := occupyTurnedRow.holds Try.pinned (OpenSpec.ofChange occupyTurnedSpec)

/-- ITS FALSE NEIGHBOUR: 'it returns false'. Refute it at one input. -/
def occupyTurnedWrong : ChangeSpec := { name := "occupyTurned", fn := fun _ => fun
  | [d1, d2, d3] => { results := [.lit (.bool false)], args := [d1, d2, d3] }
  | _ => none }
def OccupyTurnedWrongFalsely : Prop := occupyTurnedRow.holds Try.pinned (OpenSpec.ofChange occupyTurnedWrong)

/-- 'parterrelaw20.PlaceStands': WHATEVER THE INPUT: true; the input reads as it did. -/
def placeStandsSpec : ChangeSpec := { name := "placeStands", fn := fun _ => fun
  | [d1, d2, d3, d4, d5] => { results := [.lit (.bool true)], args := [d1, d2, d3, d4, d5] }
  | _ => none }
def placeStandsRow : OpenClaim := { program := "ytpfdpkfbdenapaa", sum := "04620cebc66f63f0fd6064df05581854cde8787de6e494d0bd57d851895a66cb", func := "parterre/parterrelaw20.PlaceStands", spec := "placeStands", inPlace := ["slices.overlaps[parterre/api.Cell]"], unfollowed := true, recurses := true, plainKeys := false, apart := false }
def PlaceStandsSaid : Prop := placeStandsRow.holds Try.pinned (OpenSpec.ofChange placeStandsSpec)

/-- ITS FALSE NEIGHBOUR: 'it returns false'. Refute it at one input. -/
def placeStandsWrong : ChangeSpec := { name := "placeStands", fn := fun _ => fun
  | [d1, d2, d3, d4, d5] => { results := [.lit (.bool false)], args := [d1, d2, d3, d4, d5] }
  | _ => none }
def PlaceStandsWrongFalsely : Prop := placeStandsRow.holds Try.pinned (OpenSpec.ofChange placeStandsWrong)

/-- 'parterrelaw20.PlaceApart': WHATEVER THE INPUT: true; the input reads as it did. -/
def placeApartSpec : ChangeSpec := { name := "placeApart", fn := fun _ => fun
  | [d1, d2, d3, d4, d5] => { results := [.lit (.bool true)], args := [d1, d2, d3, d4, d5] }
  | _ => none }
def placeApartRow : OpenClaim := { program := "ytpfdpkfbdenapaa", sum := "04620cebc66f63f0fd6064df05581854cde8787de6e494d0bd57d851895a66cb", func := "parterre/parterrelaw20.PlaceApart", spec := "placeApart", inPlace := ["slices.overlaps[parterre/api.Cell]"], unfollowed := true, recurses := true, plainKeys := false, apart := false }
def PlaceApartSaid : Prop := placeApartRow.holds Try.pinned (OpenSpec.ofChange placeApartSpec)

/-- ITS FALSE NEIGHBOUR: 'it returns false'. Refute it at one input. -/
def placeApartWrong : ChangeSpec := { name := "placeApart", fn := fun _ => fun
  | [d1, d2, d3, d4, d5] => { results := [.lit (.bool false)], args := [d1, d2, d3, d4, d5] }
  | _ => none }
def PlaceApartWrongFalsely : Prop := placeApartRow.holds Try.pinned (OpenSpec.ofChange placeApartWrong)

/- THE SECOND FORM. 'bulk': how many values and letters a reading holds, each counted each time it is reached (what is shared counts as often as it is met; a slice's spare places count too). A statement '..UptoSaid' is the law's where the arguments, and the package variables that the reading takes, are together of bulk at most 1048576: NARROWER than '..Said'. Prove '..Said' where nothing that the law and all that it calls make is longer than what came in: it says more and counts as full. Else prove '..UptoSaid'. A law counts once. -/
mutual
def uptoBulk {H : Type} : DataW H → Nat
  | .lit (.string bytes) => bytes.length + 1
  | .lit _ => 1
  | .nil => 1
  | .ptr d => uptoBulk d + 1
  | .slice elems spare => uptoBulkAll elems + uptoBulkAll spare + 1
  | .agg parts => uptoBulkAll parts + 1
  | .iface _ d => uptoBulk d + 1
  | .map entries => uptoBulkEntries entries + 1
  | .held _ => 1
def uptoBulkAll {H : Type} : List (DataW H) → Nat
  | [] => 0
  | d :: r => uptoBulk d + uptoBulkAll r
def uptoBulkEntries {H : Type} : List (Lit × DataW H) → Nat
  | [] => 0
  | x :: r => uptoBulkEntry x + uptoBulkEntries r
def uptoBulkEntry {H : Type} : Lit × DataW H → Nat
  | (.string bytes, d) => bytes.length + uptoBulk d + 1
  | (_, d) => uptoBulk d + 1
 end
def uptoSmall : (H : Type) → List (DataW H) → Bool := fun _ ds => decide (uptoBulkAll ds ≤ 1048576)
def OpenSpec.upto (s : _root_.Go.ChangeSpec) : _root_.Go.OpenSpec := { _root_.Go.OpenSpec.ofChange s with cond := some uptoSmall }

/-- 'parterrelaw19.OccupyOverlaps', WHERE WHAT IT READS IS OF BULK AT MOST 1048576: true; the input reads as it did. -/
def occupyOverlapsUptoRow : OpenClaim := { program := "ytpfdpkfbdenapaa", sum := "04620cebc66f63f0fd6064df05581854cde8787de6e494d0bd57d851895a66cb", func := "parterre/parterrelaw19.OccupyOverlaps", spec := "occupyOverlaps", unfollowed := true, recurses := true, plainKeys := false, apart := false, narrowed := true }
def OccupyOverlapsUptoSaid : Prop := occupyOverlapsUptoRow.holds Try.pinned (OpenSpec.upto occupyOverlapsSpec)

/-- 'parterrelaw19.OccupyNext', WHERE WHAT IT READS IS OF BULK AT MOST 1048576: true; the input reads as it did. -/
def occupyNextUptoRow : OpenClaim := { program := "ytpfdpkfbdenapaa", sum := "04620cebc66f63f0fd6064df05581854cde8787de6e494d0bd57d851895a66cb", func := "parterre/parterrelaw19.OccupyNext", spec := "occupyNext", unfollowed := true, recurses := true, plainKeys := false, apart := false, narrowed := true }
def OccupyNextUptoSaid : Prop := occupyNextUptoRow.holds Try.pinned (OpenSpec.upto occupyNextSpec)

/-- 'parterrelaw19.OccupyNear', WHERE WHAT IT READS IS OF BULK AT MOST 1048576: true; the input reads as it did. -/
def occupyNearUptoRow : OpenClaim := { program := "ytpfdpkfbdenapaa", sum := "04620cebc66f63f0fd6064df05581854cde8787de6e494d0bd57d851895a66cb", func := "parterre/parterrelaw19.OccupyNear", spec := "occupyNear", unfollowed := true, recurses := true, plainKeys := false, apart := false, narrowed := true }
def OccupyNearUptoSaid : Prop := occupyNearUptoRow.holds Try.pinned (OpenSpec.upto occupyNearSpec)

/-- 'parterrelaw19.OccupyTurned', WHERE WHAT IT READS IS OF BULK AT MOST 1048576: true; the input reads as it did. -/
def occupyTurnedUptoRow : OpenClaim := { program := "ytpfdpkfbdenapaa", sum := "04620cebc66f63f0fd6064df05581854cde8787de6e494d0bd57d851895a66cb", func := "parterre/parterrelaw19.OccupyTurned", spec := "occupyTurned", unfollowed := true, recurses := true, plainKeys := false, apart := false, narrowed := true }
def OccupyTurnedUptoSaid : Prop := occupyTurnedUptoRow.holds Try.pinned (OpenSpec.upto occupyTurnedSpec)

/-- 'parterrelaw20.PlaceStands', WHERE WHAT IT READS IS OF BULK AT MOST 1048576: true; the input reads as it did. -/
def placeStandsUptoRow : OpenClaim := { program := "ytpfdpkfbdenapaa", sum := "04620cebc66f63f0fd6064df05581854cde8787de6e494d0bd57d851895a66cb", func := "parterre/parterrelaw20.PlaceStands", spec := "placeStands", inPlace := ["slices.overlaps[parterre/api.Cell]"], unfollowed := true, recurses := true, plainKeys := false, apart := false, narrowed := true }
def PlaceStandsUptoSaid : Prop := placeStandsUptoRow.holds Try.pinned (OpenSpec.upto placeStandsSpec)

/-- 'parterrelaw20.PlaceApart', WHERE WHAT IT READS IS OF BULK AT MOST 1048576: true; the input reads as it did. -/
def placeApartUptoRow : OpenClaim := { program := "ytpfdpkfbdenapaa", sum := "04620cebc66f63f0fd6064df05581854cde8787de6e494d0bd57d851895a66cb", func := "parterre/parterrelaw20.PlaceApart", spec := "placeApart", inPlace := ["slices.overlaps[parterre/api.Cell]"], unfollowed := true, recurses := true, plainKeys := false, apart := false, narrowed := true }
def PlaceApartUptoSaid : Prop := placeApartUptoRow.holds Try.pinned (OpenSpec.upto placeApartSpec)

end Rows
end Go.Proofs.Ytpfdpkfbdenapaa
