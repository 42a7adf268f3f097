/- Nothing of the shelf is reached. -/
import Derived.Test.YtlfjbififnjkjaaProg
namespace Go.Proofs.Ytlfjbififnjkjaa
end Go.Proofs.Ytlfjbififnjkjaa
