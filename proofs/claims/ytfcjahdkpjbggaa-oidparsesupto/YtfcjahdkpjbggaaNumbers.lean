/-
  oid.numbers$1, the function that is ranged over: it goes over the numbers in a content, each with its place, and gives up at the first that is wrong.
-/
import Derived.RangeFuncNested
import Derived.RangeFuncBound
import Derived.RangeFuncCalls
import Derived.RangeFuncLeaves
import Derived.Shelf.Abstract
import Derived.Shelf.RegionOpen
import Derived.WalkKit
import Derived.OwnWalkIn
import Derived.TacticsInMore
import Derived.LoopNIn
import Derived.LoopIn
import Derived.Test.YtfcjahdkpjbggaaNextM
import Derived.Test.YtfcjahdkpjbggaaNumber
import Derived.Test.YtfcjahdkpjbggaaRangeP
namespace Go.Proofs.Ytfcjahdkpjbggaa
open Go.RowKit Go.Shelf Go.IntWalk
attribute [local go_sem] Oper.semAt_some

/-- What is kept while the numbers are gone over: the bytes, and the variable that holds them. -/
def Held (Bs : Nat) (ao : Option Addr) (len cap : Nat) (xs : List Int) (W : World) : Prop := Src W ao len cap xs ∧ W.cell? ⟨Bs, 0, none⟩ = some (.slice ao len cap)

end Go.Proofs.Ytfcjahdkpjbggaa
