/- Nothing of the shelf is reached. -/
import Derived.Test.YtjdhhmeimchapaaDoorProg
namespace Go.Proofs.YtjdhhmeimchapaaDoor
end Go.Proofs.YtjdhhmeimchapaaDoor
