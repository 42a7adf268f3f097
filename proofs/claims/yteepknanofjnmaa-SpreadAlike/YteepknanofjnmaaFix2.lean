/- What the document's own Div and Mod answer: just what package fixed's do. -/
import Derived.Test.YteepknanofjnmaaFix1
namespace Go.Proofs.Yteepknanofjnmaa
open Go.RowKit

end Go.Proofs.Yteepknanofjnmaa
