/-
  The statement ShaNobody: its walk.
-/
import Derived.Test.YtgajejomibnghaaDoorSaNo
namespace Go.Proofs.YtgajejomibnghaaDoor
open Go.RowKit Go.IntWalk

attribute [local go_sem ↓] ld_words ld_part ld_sched ld_hash ld_dig ld_arr st_words st_part st_sched st_hash st_dig st_arr ix_words bd_hash bd_keyed bd_dig eq_dig

theorem eqD_zero (w : World) : (eqD (.agg zero32.toArray) (.agg zero32.toArray)).run Tryd.prog w = .ok (.bool true) w := eqD_same (List.replicate 32 0) rfl w


theorem keep_below {U W W' : World} (h : Below U.heap.size U W) (k : Below W.heap.size W W') : Below U.heap.size U W' := h.trans (k.mono h.size)

end Go.Proofs.YtgajejomibnghaaDoor
