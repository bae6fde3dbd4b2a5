/-
  The reference's IsTag answers as the plain function of the number says.
-/
import Derived.Test.YtaeddbkkkiefcaaFind
namespace Go.Proofs.Ytaeddbkkkiefcaa
open Go.RowKit Go.IntWalk

set_option maxRecDepth 100000 in
set_option maxHeartbeats 1000000 in
theorem refIsTag_any (t : Int) (w : World) :
    Calls Try.prog 76 #[.int .i64 t] w fun e w' => e = .returned (.bool (isTagB t)) ∧ w' = w := by
  by_cases h0 : 0 ≤ t
  · by_cases h1 : t ≤ 255
    · by_cases h2 : t % 32 = 31
      · have e1 := hide (show isTagB t = false by simp [isTagB, h2])
        have e2 : (t % 32 != 31) = false := by simp [h2]
        clear h2
        go_enter Try.func76, Try.ntmps76
        go_wp2
        go_ret
        rw [e1.out]
        exact ⟨rfl, rfl⟩
      · have e1 := hide (show isTagB t = true by simp [isTagB, h0, h1, h2])
        have e2 : (t % 32 != 31) = true := by simp [h2]
        clear h2
        go_enter Try.func76, Try.ntmps76
        go_wp2
        go_ret
        rw [e1.out]
        exact ⟨rfl, rfl⟩
    · have e1 := hide (show isTagB t = false by simp [isTagB, h1])
      go_enter Try.func76, Try.ntmps76
      go_wp2
      go_ret
      rw [e1.out]
      exact ⟨rfl, rfl⟩
  · have e1 := hide (show isTagB t = false by simp [isTagB, h0])
    go_enter Try.func76, Try.ntmps76
    go_wp2
    go_ret
    rw [e1.out]
    exact ⟨rfl, rfl⟩

end Go.Proofs.Ytaeddbkkkiefcaa
