/-
  The functions that oid.Decode and oid.sound defer: what they catch.
-/
import Derived.RecoverIn
import Derived.RangeFuncLeaves
import Derived.WalkKit
import Derived.Test.YtfcjahdkpjbggaaNumbers
namespace Go.Proofs.Ytfcjahdkpjbggaa
open Go.RowKit Go.IntWalk

theorem ta_nil (w : World) : (Instr.typeAssert Value.nilIface 20 25 true).run Try.prog w = .ok (.tuple #[.int .i64 0, .bool false]) w := by kernel_rfl
theorem ta_err (x : Int) (w : World) : (Instr.typeAssert (.iface 25 (.int .i64 x)) 20 25 true).run Try.prog w = .ok (.tuple #[.int .i64 x, .bool true]) w := by kernel_rfl

end Go.Proofs.Ytfcjahdkpjbggaa
