/- A size as two numbers; a box in memory; small means. -/
import Derived.Test.YtgeimdojpoeiaaaReads
import Derived.Test.YtgeimdojpoeiaaaFix1
import Derived.Lib.MinMax
import Derived.WalkKit
import Derived.Outline
import Derived.Deep.QuietTactic
import Derived.Deep.DeepCutAuto
import Derived.Deep.LoopGhost
import Derived.Deep.CutBlock
import Derived.Deep.OwnRows
import Derived.Deep.RegionHeld3
import Derived.BigQuiet
import Derived.BigRegion
import Derived.RegionTactic
import Derived.OwnWalk
import Derived.WalkLawsBesides
namespace Go.Proofs.Ytgeimdojpoeiaaa
open Go.RowKit

abbrev LenD := Int × Int

def noLen : LenD := (0, 0)

end Go.Proofs.Ytgeimdojpoeiaaa
