/- What the document's own Div and Mod answer: just what package fixed's do. -/
import Derived.Test.YtilclknfkaafbaaGreatDoorFix1
namespace Go.Proofs.YtilclknfkaafbaaGreatDoor
open Go.RowKit

end Go.Proofs.YtilclknfkaafbaaGreatDoor
