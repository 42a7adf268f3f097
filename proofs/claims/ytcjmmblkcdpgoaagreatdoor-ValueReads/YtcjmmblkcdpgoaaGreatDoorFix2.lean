/- What the document's own Div and Mod answer: just what package fixed's do. -/
import Derived.Test.YtcjmmblkcdpgoaaGreatDoorFix1
namespace Go.Proofs.YtcjmmblkcdpgoaaGreatDoor
open Go.RowKit

end Go.Proofs.YtcjmmblkcdpgoaaGreatDoor
