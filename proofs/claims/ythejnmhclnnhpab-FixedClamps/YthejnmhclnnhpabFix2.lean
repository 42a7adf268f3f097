/- What the document's own Div and Mod answer: just what package fixed's do. -/
import Derived.Test.YthejnmhclnnhpabFix1
namespace Go.Proofs.Ythejnmhclnnhpab
open Go.RowKit

end Go.Proofs.Ythejnmhclnnhpab
