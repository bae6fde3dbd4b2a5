/-
  der.isTag answers as the plain function of the number says.
-/
import Derived.Test.YtaeddbkkkiefcaaBts
import Derived.Test.YtaeddbkkkiefcaaSpec
import Derived.Deep.QuietTactic
import Derived.BigQuiet
namespace Go.Proofs.Ytaeddbkkkiefcaa
open Go.RowKit Go.IntWalk

set_option maxRecDepth 100000 in
set_option maxHeartbeats 1000000 in
theorem isTag_any (t : Int) (w : World) :
    Calls Try.prog 83 #[.int .i64 t] w fun e w' => e = .returned (.bool (isTagB t)) ∧ w' = w := by
  have hm := and31 t
  by_cases h0 : 0 ≤ t
  · by_cases h1 : t ≤ 255
    · by_cases h2 : t % 32 = 31
      · have e1 := hide (show isTagB t = false by simp [isTagB, h2])
        have e2 : (t % 32 != 31) = false := by simp [h2]
        clear h2
        go_enter Try.func83, Try.ntmps83
        go_wp2
        go_ret
        rw [e1.out]
        exact ⟨rfl, rfl⟩
      · have e1 := hide (show isTagB t = true by simp [isTagB, h0, h1, h2])
        have e2 : (t % 32 != 31) = true := by simp [h2]
        clear h2
        go_enter Try.func83, Try.ntmps83
        go_wp2
        go_ret
        rw [e1.out]
        exact ⟨rfl, rfl⟩
    · have e1 := hide (show isTagB t = false by simp [isTagB, h1])
      go_enter Try.func83, Try.ntmps83
      go_wp2
      go_ret
      rw [e1.out]
      exact ⟨rfl, rfl⟩
  · have e1 := hide (show isTagB t = false by simp [isTagB, h0])
    go_enter Try.func83, Try.ntmps83
    go_wp2
    go_ret
    rw [e1.out]
    exact ⟨rfl, rfl⟩

end Go.Proofs.Ytaeddbkkkiefcaa
