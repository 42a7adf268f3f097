/- What the document's own MulDiv answers, case by case. -/
import Derived.Test.YtaogioogpodmkaaWide3
import Derived.Test.YtaogioogpodmkaaMath2
import Derived.Test.YtaogioogpodmkaaMulDiv
namespace Go.Proofs.Ytaogioogpodmkaa
open Go.RowKit

end Go.Proofs.Ytaogioogpodmkaa
