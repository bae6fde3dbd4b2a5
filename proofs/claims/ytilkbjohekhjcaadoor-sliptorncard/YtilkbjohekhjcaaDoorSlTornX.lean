/-
  SlipTorn's walk, as its row asks for it.
-/
import Derived.Test.YtilkbjohekhjcaaDoorSlTornW
namespace Go.Proofs.YtilkbjohekhjcaaDoor
open Go.RowKit

theorem torn_walk (al : Option Addr) (nl cl : Nat) (es : List (Int × List Int)) (cut : Int) (w : World) (hT : Tab w) (hE : Els w al nl cl es) {p : Prop} (_ : p) :
    Calls Tryd.prog 3 #[.slice al nl cl, .int .i64 cut] w fun e w' => e = .returned (.bool true) ∧ Below w.heap.size w w' := callsIn_wide.1 (torn_in al nl cl es cut w hT hE)

end Go.Proofs.YtilkbjohekhjcaaDoor
