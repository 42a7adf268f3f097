/- What the document's own Div and Mod answer: just what package fixed's do. -/
import Derived.Test.YtiiilalafeiobaaDoorFix1
namespace Go.Proofs.YtiiilalafeiobaaDoor
open Go.RowKit

end Go.Proofs.YtiiilalafeiobaaDoor
