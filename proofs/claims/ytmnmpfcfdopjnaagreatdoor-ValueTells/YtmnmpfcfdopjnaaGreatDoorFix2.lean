/- What the document's own Div and Mod answer: just what package fixed's do. -/
import Derived.Test.YtmnmpfcfdopjnaaGreatDoorFix1
namespace Go.Proofs.YtmnmpfcfdopjnaaGreatDoor
open Go.RowKit

end Go.Proofs.YtmnmpfcfdopjnaaGreatDoor
