/- The library's contracts at this program, laid by the kit's command: those that came later. -/
import Derived.Test.YtgeimdojpoeiaaaShelf
import Derived.Shelf.Strings.Builder1
import Derived.Shelf.Small.Strs
import Derived.Shelf.Small.Wraps
import Derived.Shelf.Strings.Search1
import Derived.Shelf.Slices.Turned
import Derived.Ground.Names2Prog
import Derived.Shelf.Slices.SearchI
import Derived.Shelf.Slices.Empties
import Derived.Test.YtgeimdojpoeiaaaProg
namespace Go.Proofs
open Go.Shelf
open Go.RowKit

end Go.Proofs

