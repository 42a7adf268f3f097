/- What twice and plus answer of the document's numbers of 128 bits. -/
import Derived.Test.YtilclknfkaafbaaGreatDoorBits
namespace Go.Proofs.YtilclknfkaafbaaGreatDoor
open Go.RowKit

end Go.Proofs.YtilclknfkaafbaaGreatDoor
