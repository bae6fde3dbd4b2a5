/-
  der.One answers as the plain function of the bytes says, the content copied into new memory.
-/
import Derived.Test.YtdjlaaflmbdomaaTake
namespace Go.Proofs.Ytdjlaaflmbdomaa
open Go.RowKit Go.IntWalk

/-- Tag, content and the error's number where bytes are to be just one element. -/
def oneS (xs : List Int) : Int × List Int × Int :=
  if (findS xs).2.2.2 ≠ 0 then (0, [], (findS xs).2.2.2)
  else if (findS xs).2.2.1 < (xs.length : Int) then (0, [], 13)
  else ((findS xs).1, contS xs, 0)

end Go.Proofs.Ytdjlaaflmbdomaa
