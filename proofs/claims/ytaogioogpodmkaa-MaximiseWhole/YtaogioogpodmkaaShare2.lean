/- What Share answers: nothing, or for each weight its share. -/
import Derived.Test.YtaogioogpodmkaaShare1
namespace Go.Proofs.Ytaogioogpodmkaa
open Go.RowKit Go.Shelf

attribute [local go_sem] Oper.semAt_some

/-- The shares, all of them; nothing, where nothing can be shared. -/
def shareV (n : Int) (zs : List Int) : List Int := shareUp n zs.sum zs zs.length

end Go.Proofs.Ytaogioogpodmkaa
