/-
  The statement SlipRows: its walk, out of the fence.
-/
import Derived.Test.YtogemhoempkjoaaDoorSlRowsW
namespace Go.Proofs.YtogemhoempkjoaaDoor
open Go.RowKit Go.Shelf Go.IntWalk

theorem rows_walk (ao : Option Addr) (n cap : Nat) (xs : List Int) (lv : Int) (w : World) (hT : Tab w) (hs : Src w ao n cap xs) (hn : n ≤ 1048576) (_hl : -9223372036854775808 ≤ lv ∧ lv ≤ 9223372036854775807) :
    Calls Tryd.prog 6 #[.slice ao n cap, .int .i64 lv] w fun e w' => e = .returned (.bool true) ∧ Below w.heap.size w w' :=
  callsIn_wide.1 (rows_in ao n cap xs lv w hT hs hn)

end Go.Proofs.YtogemhoempkjoaaDoor
