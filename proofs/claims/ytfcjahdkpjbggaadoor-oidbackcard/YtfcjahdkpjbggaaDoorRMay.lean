/-
  The document's May says of any list of numbers whether it is an object identifier (mayS); it writes nothing.
-/
import Derived.Test.YtfcjahdkpjbggaaDoorMay
namespace Go.Proofs.YtfcjahdkpjbggaaDoor
open Go.RowKit Go.IntWalk

end Go.Proofs.YtfcjahdkpjbggaaDoor
