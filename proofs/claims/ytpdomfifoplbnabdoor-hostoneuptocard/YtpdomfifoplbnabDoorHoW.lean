/-
  The statements' own calls names, works and there answer true.
-/
import Derived.Test.YtpdomfifoplbnabDoorHoE
namespace Go.Proofs.YtpdomfifoplbnabDoor
open Go.RowKit Go.Shelf Go.IntWalk

set_option maxRecDepth 100000 in
set_option maxHeartbeats 1000000 in
theorem there_any (m : Int) (w : World) (hm : ML w m) :
    Calls Tryd.prog 5 #[] w fun e w' => e = .returned (.bool true) ∧ Below w.heap.size w w' := by
  have e1 : dnsL [97, 46, 98] = true := by decide
  have d1 : Hid (∀ W, ML W m → Calls Tryd.prog 6 #[.string ⟨#[97, 46, 98]⟩] W fun e w' => e = .returned (.bool true) ∧ Below W.heap.size W w') := fun W h => by have := dns_any [97, 46, 98] (by decide) m W h; rw [e1] at this; exact this
  have d2 : Hid (∀ W, ML W m → Calls Tryd.prog 6 #[.string ⟨#[]⟩] W fun e w' => e = .returned (.bool false) ∧ Below W.heap.size W w') := fun W h => by have := dns_any [] (by decide) m W h; rw [dnsL_nil] at this; exact this
  have HM := hide hm
  clear e1 hm
  go_enter Tryd.func5, Tryd.ntmps5
  go_wp2_with (first
    | (go_at_call_of 6 (Value.string ⟨#[97, 46, 98]⟩); refine (d1.out _ HM.out).mono ?_; rintro e w1 ⟨rfl, h1⟩; have hm1 := hide (HM.out.below h1))
    | (go_at_call_of 6 (Value.string ⟨#[]⟩); refine (d2.out _ hm1.out).mono ?_; rintro e w2 ⟨rfl, h2⟩))
  go_ret
  exact ⟨rfl, h1.trans (h2.mono h1.size)⟩

end Go.Proofs.YtpdomfifoplbnabDoor
