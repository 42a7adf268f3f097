/-
  No cell of these rows narrows 'for every input' (looked for: loops, veiled, ifaces, maps, wideKeys, modest, calm, conditions, laid).
  DERIVED. THE GIVEN ROWS OF THIS SEAT. 3 by the template 'for every input the law returns true; each argument reads behind the call as it read before'; 0 by the template 'total and deterministic' (their statements: YtjmffhihfnmkiaaTotals.lean).
  GIVEN WITH THE SEED: the statements are not yours to turn. If you find one false, say at which input.
  Laid BY PROGRAM, IN A SANDBOX (cutbox-rows.mjs): the forced cells as the released guide's own fill.sh prints them over the translation 1e33781a6649cc36… (all of the seat's roots in one cut). By AI agents, Wed Nov 11 2026. No macro, syntax, notation, axiom, sorry.
-/
import Derived.Test.YtjmffhihfnmkiaaChecked
import GoSem.Claim
import GoSem.ClaimJoined
import GoSem.ClaimMapViews
import Derived.JoinedTies
import Derived.KernelRfl
namespace Go.Proofs.Ytjmffhihfnmkiaa
/- THE CELL 'sum', in the pinned program and in every row, IS THE sha256 OF THE DUMP (.gsa) THAT YtjmffhihfnmkiaaProg.lean LOADS. Nothing in Lean hashes anything: it is a label: what it is worth is what the hold of that sum in a sandbox is worth. -/
noncomputable def Try.pinned : Pinned := { name := "ytjmffhihfnmkiaa", sum := "1e33781a6649cc36c7f5fb109ee91de1f8f531176223f415078c8cc1fc7d9611", checked := Try.checked }
namespace Rows
def none {H : Type} : Left H := { results := [], args := [] }

/-- 'parterrelaw14.LeafTells': WHATEVER THE INPUT: true; the input reads as it did. -/
def leafTellsSpec : ChangeSpec := { name := "leafTells", fn := fun _ => fun
  | [d1, d2] => { results := [.lit (.bool true)], args := [d1, d2] }
  | _ => none }
def leafTellsRow : OpenClaim := { program := "ytjmffhihfnmkiaa", sum := "1e33781a6649cc36c7f5fb109ee91de1f8f531176223f415078c8cc1fc7d9611", func := "parterre/parterrelaw14.LeafTells", spec := "leafTells", unfollowed := true, recurses := true, apart := false }
def LeafTellsSaid : Prop := leafTellsRow.holds Try.pinned (OpenSpec.ofChange leafTellsSpec)

/-- ITS FALSE NEIGHBOUR: 'it returns false'. Refute it at one input. -/
def leafTellsWrong : ChangeSpec := { name := "leafTells", fn := fun _ => fun
  | [d1, d2] => { results := [.lit (.bool false)], args := [d1, d2] }
  | _ => none }
def LeafTellsWrongFalsely : Prop := leafTellsRow.holds Try.pinned (OpenSpec.ofChange leafTellsWrong)

/-- 'parterrelaw14.LeafLines': WHATEVER THE INPUT: true; the input reads as it did. -/
def leafLinesSpec : ChangeSpec := { name := "leafLines", fn := fun _ => fun
  | [d1, d2] => { results := [.lit (.bool true)], args := [d1, d2] }
  | _ => none }
def leafLinesRow : OpenClaim := { program := "ytjmffhihfnmkiaa", sum := "1e33781a6649cc36c7f5fb109ee91de1f8f531176223f415078c8cc1fc7d9611", func := "parterre/parterrelaw14.LeafLines", spec := "leafLines", unfollowed := true, recurses := true, apart := false }
def LeafLinesSaid : Prop := leafLinesRow.holds Try.pinned (OpenSpec.ofChange leafLinesSpec)

/-- ITS FALSE NEIGHBOUR: 'it returns false'. Refute it at one input. -/
def leafLinesWrong : ChangeSpec := { name := "leafLines", fn := fun _ => fun
  | [d1, d2] => { results := [.lit (.bool false)], args := [d1, d2] }
  | _ => none }
def LeafLinesWrongFalsely : Prop := leafLinesRow.holds Try.pinned (OpenSpec.ofChange leafLinesWrong)

/-- 'parterrelaw14.LeafMore': WHATEVER THE INPUT: true; the input reads as it did. -/
def leafMoreSpec : ChangeSpec := { name := "leafMore", fn := fun _ => fun
  | [d1, d2, d3] => { results := [.lit (.bool true)], args := [d1, d2, d3] }
  | _ => none }
def leafMoreRow : OpenClaim := { program := "ytjmffhihfnmkiaa", sum := "1e33781a6649cc36c7f5fb109ee91de1f8f531176223f415078c8cc1fc7d9611", func := "parterre/parterrelaw14.LeafMore", spec := "leafMore", unfollowed := true, recurses := true, apart := false }
def LeafMoreSaid : Prop := leafMoreRow.holds Try.pinned (OpenSpec.ofChange leafMoreSpec)

/-- ITS FALSE NEIGHBOUR: 'it returns false'. Refute it at one input. -/
def leafMoreWrong : ChangeSpec := { name := "leafMore", fn := fun _ => fun
  | [d1, d2, d3] => { results := [.lit (.bool false)], args := [d1, d2, d3] }
  | _ => none }
def LeafMoreWrongFalsely : Prop := leafMoreRow.holds Try.pinned (OpenSpec.ofChange leafMoreWrong)

/- THE SECOND FORM. 'bulk': how many values and letters a reading holds, each counted each time it is reached (what is shared counts as often as it is met; a slice's spare places count too). A statement '..UptoSaid' is the law's where the arguments, and the package variables that the reading takes, are together of bulk at most 1048576: NARROWER than '..Said'. Prove '..Said' where nothing that the law and all that it calls make is longer than what came in: it says more and counts as full. Else prove '..UptoSaid'. A law counts once. -/
mutual
def uptoBulk {H : Type} : DataW H → Nat
  | .lit (.string bytes) => bytes.length + 1
  | .lit _ => 1
  | .nil => 1
  | .ptr d => uptoBulk d + 1
  | .slice elems spare => uptoBulkAll elems + uptoBulkAll spare + 1
  | .agg parts => uptoBulkAll parts + 1
  | .iface _ d => uptoBulk d + 1
  | .map entries => uptoBulkEntries entries + 1
  | .held _ => 1
def uptoBulkAll {H : Type} : List (DataW H) → Nat
  | [] => 0
  | d :: r => uptoBulk d + uptoBulkAll r
def uptoBulkEntries {H : Type} : List (Lit × DataW H) → Nat
  | [] => 0
  | x :: r => uptoBulkEntry x + uptoBulkEntries r
def uptoBulkEntry {H : Type} : Lit × DataW H → Nat
  | (.string bytes, d) => bytes.length + uptoBulk d + 1
  | (_, d) => uptoBulk d + 1
 end
def uptoSmall : (H : Type) → List (DataW H) → Bool := fun _ ds => decide (uptoBulkAll ds ≤ 1048576)
def OpenSpec.upto (s : _root_.Go.ChangeSpec) : _root_.Go.OpenSpec := { _root_.Go.OpenSpec.ofChange s with cond := some uptoSmall }

/-- 'parterrelaw14.LeafTells', WHERE WHAT IT READS IS OF BULK AT MOST 1048576: true; the input reads as it did. -/
def leafTellsUptoRow : OpenClaim := { program := "ytjmffhihfnmkiaa", sum := "1e33781a6649cc36c7f5fb109ee91de1f8f531176223f415078c8cc1fc7d9611", func := "parterre/parterrelaw14.LeafTells", spec := "leafTells", unfollowed := true, recurses := true, apart := false, narrowed := true }
def LeafTellsUptoSaid : Prop := leafTellsUptoRow.holds Try.pinned (OpenSpec.upto leafTellsSpec)

/-- 'parterrelaw14.LeafLines', WHERE WHAT IT READS IS OF BULK AT MOST 1048576: true; the input reads as it did. -/
def leafLinesUptoRow : OpenClaim := { program := "ytjmffhihfnmkiaa", sum := "1e33781a6649cc36c7f5fb109ee91de1f8f531176223f415078c8cc1fc7d9611", func := "parterre/parterrelaw14.LeafLines", spec := "leafLines", unfollowed := true, recurses := true, apart := false, narrowed := true }
def LeafLinesUptoSaid : Prop := leafLinesUptoRow.holds Try.pinned (OpenSpec.upto leafLinesSpec)

/-- 'parterrelaw14.LeafMore', WHERE WHAT IT READS IS OF BULK AT MOST 1048576: true; the input reads as it did. -/
def leafMoreUptoRow : OpenClaim := { program := "ytjmffhihfnmkiaa", sum := "1e33781a6649cc36c7f5fb109ee91de1f8f531176223f415078c8cc1fc7d9611", func := "parterre/parterrelaw14.LeafMore", spec := "leafMore", unfollowed := true, recurses := true, apart := false, narrowed := true }
def LeafMoreUptoSaid : Prop := leafMoreUptoRow.holds Try.pinned (OpenSpec.upto leafMoreSpec)

end Rows
end Go.Proofs.Ytjmffhihfnmkiaa
