/- What the document's own Div and Mod answer: just what package fixed's do. -/
import Derived.Test.YtolmpbmliiineaaFix1
namespace Go.Proofs.Ytolmpbmliiineaa
open Go.RowKit

end Go.Proofs.Ytolmpbmliiineaa
