/-
  The document's constants.
-/
import Derived.Test.YtgajejomibnghaaDoorSaRPad
namespace Go.Proofs.YtgajejomibnghaaDoor
open Go.RowKit Go.IntWalk

theorem kL_dg : Dg 4294967296 kL := by intro x hx; simp [kL] at hx; omega

set_option maxRecDepth 100000 in
set_option maxHeartbeats 4000000 in
theorem words_any (w : World) :
    Calls Tryd.prog 31 #[] w fun e w' => e = .returned (.slice (some ⟨w.heap.size, 0, none⟩) 64 64) ∧ RowG .u32 4294967296 65 w' w.heap.size kL ∧ Below w.heap.size w w' := by
  go_enter Tryd.func31, Tryd.ntmps31
  go_wp2
  go_ret
  refine ⟨rfl, ⟨?_, kL_dg⟩, (Below.refl _ _).alloc (Nat.le_refl _) _⟩
  exact Blk.new w (kL.map (Value.int .u32)) _ _ rfl rfl

end Go.Proofs.YtgajejomibnghaaDoor
