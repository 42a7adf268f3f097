/- What the document's own Div and Mod answer: just what package fixed's do. -/
import Derived.Test.YtgeimdojpoeiaaaFix1
namespace Go.Proofs.Ytgeimdojpoeiaaa
open Go.RowKit

end Go.Proofs.Ytgeimdojpoeiaaa
