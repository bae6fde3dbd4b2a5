/-
  der.Size answers the plain function's number at every int.
-/
import Derived.Test.YtaeddbkkkiefcaaBts
import Derived.Test.YtaeddbkkkiefcaaMath
namespace Go.Proofs.Ytaeddbkkkiefcaa
open Go.RowKit

set_option maxRecDepth 100000 in
set_option maxHeartbeats 1000000 in
theorem size_any (n : Int) (w : World) :
    Calls Try.prog 84 #[.int .i64 n] w fun e w' => e = .returned (.int .i64 (sizeN n)) ∧ w' = w := by
  by_cases h0 : n < 0
  · have e1 : sizeN n = 0 := by unfold sizeN; rw [if_pos (.inl h0)]
    have E := hide e1
    clear e1
    go_enter Try.func84, Try.ntmps84
    go_wp2
    go_ret
    rw [unhide E]
    exact ⟨rfl, rfl⟩
  · by_cases h1 : 16777215 < n
    · have e1 : sizeN n = 0 := by unfold sizeN; rw [if_pos (.inr h1)]
      have E := hide e1
      clear e1
      go_enter Try.func84, Try.ntmps84
      go_wp2
      go_ret
      rw [unhide E]
      exact ⟨rfl, rfl⟩
    · by_cases h2 : n ≤ 127
      · have e1 : sizeN n = 2 := by unfold sizeN; rw [if_neg (by omega), if_pos h2]
        have E := hide e1
        clear e1
        go_enter Try.func84, Try.ntmps84
        go_wp2
        go_ret
        rw [unhide E]
        exact ⟨rfl, rfl⟩
      · by_cases h3 : n < 256
        · have e1 : sizeN n = 3 := by unfold sizeN; rw [if_neg (by omega), if_neg h2, if_pos h3]
          have E := hide e1
          clear e1
          go_enter Try.func84, Try.ntmps84
          go_wp2
          go_ret
          rw [unhide E]
          exact ⟨rfl, rfl⟩
        · by_cases h4 : n < 65536
          · have e1 : sizeN n = 4 := by unfold sizeN; rw [if_neg (by omega), if_neg h2, if_neg h3, if_pos h4]
            have E := hide e1
            clear e1
            go_enter Try.func84, Try.ntmps84
            go_wp2
            go_ret
            rw [unhide E]
            exact ⟨rfl, rfl⟩
          · have e1 : sizeN n = 5 := by unfold sizeN; rw [if_neg (by omega), if_neg h2, if_neg h3, if_neg h4]
            have E := hide e1
            clear e1
            go_enter Try.func84, Try.ntmps84
            go_wp2
            go_ret
            rw [unhide E]
            exact ⟨rfl, rfl⟩

end Go.Proofs.Ytaeddbkkkiefcaa
