/- What the document's own MulDiv answers, case by case. -/
import Derived.Test.YtilclknfkaafbaaGreatDoorWide3
import Derived.Test.YtilclknfkaafbaaGreatDoorMath2
import Derived.Test.YtilclknfkaafbaaGreatDoorMulDiv
namespace Go.Proofs.YtilclknfkaafbaaGreatDoor
open Go.RowKit

end Go.Proofs.YtilclknfkaafbaaGreatDoor
