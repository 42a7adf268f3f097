/- What twice and plus answer of the document's numbers of 128 bits. -/
import Derived.Test.YtaogioogpodmkaaBits
namespace Go.Proofs.Ytaogioogpodmkaa
open Go.RowKit

end Go.Proofs.Ytaogioogpodmkaa
