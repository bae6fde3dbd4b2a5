/-
  oid.number reads the number with which bytes begin, or gives up (nextS).
-/
import Derived.Test.YtfcjahdkpjbggaaBehind
import Derived.Test.YtfcjahdkpjbggaaRNext
namespace Go.Proofs.Ytfcjahdkpjbggaa
open Go.RowKit Go.IntWalk

/-- How the reading of a number ends. -/
def numEnd (r : Int × Nat × Int) : Ending := if r.2.2 = 0 then .returned (.int .i64 r.1) else .panicked (errP r.2.2)

end Go.Proofs.Ytfcjahdkpjbggaa
