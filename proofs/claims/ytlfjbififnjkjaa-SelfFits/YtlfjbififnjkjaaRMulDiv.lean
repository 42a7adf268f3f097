/- What the document's own MulDiv answers, case by case. -/
import Derived.Test.YtlfjbififnjkjaaWide3
import Derived.Test.YtlfjbififnjkjaaMath2
import Derived.Test.YtlfjbififnjkjaaMulDiv
namespace Go.Proofs.Ytlfjbififnjkjaa
open Go.RowKit

end Go.Proofs.Ytlfjbififnjkjaa
