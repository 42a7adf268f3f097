/- What the document's own Div and Mod answer: just what package fixed's do. -/
import Derived.Test.YtaokpnonhaeniaaFix1
namespace Go.Proofs.Ytaokpnonhaeniaa
open Go.RowKit

end Go.Proofs.Ytaokpnonhaeniaa
