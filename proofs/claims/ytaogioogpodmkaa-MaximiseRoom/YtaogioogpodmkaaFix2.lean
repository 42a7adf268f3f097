/- What the document's own Div and Mod answer: just what package fixed's do. -/
import Derived.Test.YtaogioogpodmkaaFix1
namespace Go.Proofs.Ytaogioogpodmkaa
open Go.RowKit

end Go.Proofs.Ytaogioogpodmkaa
