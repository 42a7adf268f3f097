/-
  No cell of these rows narrows 'for every input' (looked for: loops, veiled, ifaces, maps, wideKeys, modest, calm, conditions, laid).
  DERIVED. THE GIVEN ROWS OF THIS SEAT. 3 by the template 'for every input the law returns true; each argument reads behind the call as it read before'; 0 by the template 'total and deterministic' (their statements: YtolmpbmliiineaaTotals.lean).
  GIVEN WITH THE SEED: the statements are not yours to turn. If you find one false, say at which input.
  Laid BY PROGRAM, IN A SANDBOX (cutbox-rows.mjs): the forced cells as the released guide's own fill.sh prints them over the translation 5039de1afafac5be… (all of the seat's roots in one cut). By AI agents, Wed Nov 11 2026. No macro, syntax, notation, axiom, sorry.
-/
import Derived.Test.YtolmpbmliiineaaChecked
import GoSem.Claim
import GoSem.ClaimJoined
import GoSem.ClaimMapViews
import Derived.JoinedTies
import Derived.KernelRfl
namespace Go.Proofs.Ytolmpbmliiineaa
/- THE CELL 'sum', in the pinned program and in every row, IS THE sha256 OF THE DUMP (.gsa) THAT YtolmpbmliiineaaProg.lean LOADS. Nothing in Lean hashes anything: it is a label: what it is worth is what the hold of that sum in a sandbox is worth. -/
noncomputable def Try.pinned : Pinned := { name := "ytolmpbmliiineaa", sum := "5039de1afafac5befb344116726da481c7b8648484402d75ecb6eb92db5f1e6f", checked := Try.checked }
namespace Rows
def none {H : Type} : Left H := { results := [], args := [] }

/-- 'parterrelaw16.NamesFinds': WHATEVER THE INPUT: true; the input reads as it did. -/
def namesFindsSpec : ChangeSpec := { name := "namesFinds", fn := fun _ => fun
  | [d1, d2, d3, d4] => { results := [.lit (.bool true)], args := [d1, d2, d3, d4] }
  | _ => none }
def namesFindsRow : OpenClaim := { program := "ytolmpbmliiineaa", sum := "5039de1afafac5befb344116726da481c7b8648484402d75ecb6eb92db5f1e6f", func := "parterre/parterrelaw16.NamesFinds", spec := "namesFinds", apart := false }
def NamesFindsSaid : Prop := namesFindsRow.holds Try.pinned (OpenSpec.ofChange namesFindsSpec)

/-- ITS FALSE NEIGHBOUR: 'it returns false'. Refute it at one input. -/
def namesFindsWrong : ChangeSpec := { name := "namesFinds", fn := fun _ => fun
  | [d1, d2, d3, d4] => { results := [.lit (.bool false)], args := [d1, d2, d3, d4] }
  | _ => none }
def NamesFindsWrongFalsely : Prop := namesFindsRow.holds Try.pinned (OpenSpec.ofChange namesFindsWrong)

/-- 'parterrelaw16.NamesAlong': WHATEVER THE INPUT: true; the input reads as it did. -/
def namesAlongSpec : ChangeSpec := { name := "namesAlong", fn := fun _ => fun
  | [d1, d2, d3, d4] => { results := [.lit (.bool true)], args := [d1, d2, d3, d4] }
  | _ => none }
def namesAlongRow : OpenClaim := { program := "ytolmpbmliiineaa", sum := "5039de1afafac5befb344116726da481c7b8648484402d75ecb6eb92db5f1e6f", func := "parterre/parterrelaw16.NamesAlong", spec := "namesAlong", apart := false }
def NamesAlongSaid : Prop := namesAlongRow.holds Try.pinned (OpenSpec.ofChange namesAlongSpec)

/-- ITS FALSE NEIGHBOUR: 'it returns false'. Refute it at one input. -/
def namesAlongWrong : ChangeSpec := { name := "namesAlong", fn := fun _ => fun
  | [d1, d2, d3, d4] => { results := [.lit (.bool false)], args := [d1, d2, d3, d4] }
  | _ => none }
def NamesAlongWrongFalsely : Prop := namesAlongRow.holds Try.pinned (OpenSpec.ofChange namesAlongWrong)

/-- 'parterrelaw16.NamesRising': WHATEVER THE INPUT: true; the input reads as it did. -/
def namesRisingSpec : ChangeSpec := { name := "namesRising", fn := fun _ => fun
  | [d1, d2, d3, d4] => { results := [.lit (.bool true)], args := [d1, d2, d3, d4] }
  | _ => none }
def namesRisingRow : OpenClaim := { program := "ytolmpbmliiineaa", sum := "5039de1afafac5befb344116726da481c7b8648484402d75ecb6eb92db5f1e6f", func := "parterre/parterrelaw16.NamesRising", spec := "namesRising", apart := false }
def NamesRisingSaid : Prop := namesRisingRow.holds Try.pinned (OpenSpec.ofChange namesRisingSpec)

/-- ITS FALSE NEIGHBOUR: 'it returns false'. Refute it at one input. -/
def namesRisingWrong : ChangeSpec := { name := "namesRising", fn := fun _ => fun
  | [d1, d2, d3, d4] => { results := [.lit (.bool false)], args := [d1, d2, d3, d4] }
  | _ => none }
def NamesRisingWrongFalsely : Prop := namesRisingRow.holds Try.pinned (OpenSpec.ofChange namesRisingWrong)

/- THE SECOND FORM. 'bulk': how many values and letters a reading holds, each counted each time it is reached (what is shared counts as often as it is met; a slice's spare places count too). A statement '..UptoSaid' is the law's where the arguments, and the package variables that the reading takes, are together of bulk at most 1048576: NARROWER than '..Said'. Prove '..Said' where nothing that the law and all that it calls make is longer than what came in: it says more and counts as full. Else prove '..UptoSaid'. A law counts once. -/
mutual
def uptoBulk {H : Type} : DataW H → Nat
  | .lit (.string bytes) => bytes.length + 1
  | .lit _ => 1
  | .nil => 1
  | .ptr d => uptoBulk d + 1
  | .slice elems spare => uptoBulkAll elems + uptoBulkAll spare + 1
  | .agg parts => uptoBulkAll parts + 1
  | .iface _ d => uptoBulk d + 1
  | .map entries => uptoBulkEntries entries + 1
  | .held _ => 1
def uptoBulkAll {H : Type} : List (DataW H) → Nat
  | [] => 0
  | d :: r => uptoBulk d + uptoBulkAll r
def uptoBulkEntries {H : Type} : List (Lit × DataW H) → Nat
  | [] => 0
  | x :: r => uptoBulkEntry x + uptoBulkEntries r
def uptoBulkEntry {H : Type} : Lit × DataW H → Nat
  | (.string bytes, d) => bytes.length + uptoBulk d + 1
  | (_, d) => uptoBulk d + 1
 end
def uptoSmall : (H : Type) → List (DataW H) → Bool := fun _ ds => decide (uptoBulkAll ds ≤ 1048576)
def OpenSpec.upto (s : _root_.Go.ChangeSpec) : _root_.Go.OpenSpec := { _root_.Go.OpenSpec.ofChange s with cond := some uptoSmall }

/-- 'parterrelaw16.NamesFinds', WHERE WHAT IT READS IS OF BULK AT MOST 1048576: true; the input reads as it did. -/
def namesFindsUptoRow : OpenClaim := { program := "ytolmpbmliiineaa", sum := "5039de1afafac5befb344116726da481c7b8648484402d75ecb6eb92db5f1e6f", func := "parterre/parterrelaw16.NamesFinds", spec := "namesFinds", apart := false, narrowed := true }
def NamesFindsUptoSaid : Prop := namesFindsUptoRow.holds Try.pinned (OpenSpec.upto namesFindsSpec)

/-- 'parterrelaw16.NamesAlong', WHERE WHAT IT READS IS OF BULK AT MOST 1048576: true; the input reads as it did. -/
def namesAlongUptoRow : OpenClaim := { program := "ytolmpbmliiineaa", sum := "5039de1afafac5befb344116726da481c7b8648484402d75ecb6eb92db5f1e6f", func := "parterre/parterrelaw16.NamesAlong", spec := "namesAlong", apart := false, narrowed := true }
def NamesAlongUptoSaid : Prop := namesAlongUptoRow.holds Try.pinned (OpenSpec.upto namesAlongSpec)

/-- 'parterrelaw16.NamesRising', WHERE WHAT IT READS IS OF BULK AT MOST 1048576: true; the input reads as it did. -/
def namesRisingUptoRow : OpenClaim := { program := "ytolmpbmliiineaa", sum := "5039de1afafac5befb344116726da481c7b8648484402d75ecb6eb92db5f1e6f", func := "parterre/parterrelaw16.NamesRising", spec := "namesRising", apart := false, narrowed := true }
def NamesRisingUptoSaid : Prop := namesRisingUptoRow.holds Try.pinned (OpenSpec.upto namesRisingSpec)

end Rows
end Go.Proofs.Ytolmpbmliiineaa
