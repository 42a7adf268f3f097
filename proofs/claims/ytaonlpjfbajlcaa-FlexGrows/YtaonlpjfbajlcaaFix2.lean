/- What the document's own Div and Mod answer: just what package fixed's do. -/
import Derived.Test.YtaonlpjfbajlcaaFix1
namespace Go.Proofs.Ytaonlpjfbajlcaa
open Go.RowKit

end Go.Proofs.Ytaonlpjfbajlcaa
