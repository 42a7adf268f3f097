/- What twice and plus answer of the document's numbers of 128 bits. -/
import Derived.Test.YtlfjbififnjkjaaBits
namespace Go.Proofs.Ytlfjbififnjkjaa
open Go.RowKit

end Go.Proofs.Ytlfjbififnjkjaa
