/-
  The statements' own call there answers true.
-/
import Derived.Test.YtfoacocnkdkdeaaDoorWiBel
namespace Go.Proofs.YtfoacocnkdkdeaaDoor
open Go.RowKit Go.Shelf Go.IntWalk

set_option maxRecDepth 100000 in
set_option maxHeartbeats 1000000 in
theorem there_kp (w0 : World) (m : Int) (w : World) (hm : Kp w0 m w) :
    Calls Tryd.prog 7 #[] w fun e w' => e = .returned (.bool true) ∧ Kp w0 m w' := by
  have e1 : belB [120, 46, 97, 46, 98] [97, 46, 98] = true := by decide
  have e2 : belB [120, 97, 46, 98] [97, 46, 98] = false := by decide
  have d1 : Hid (∀ W, Kp w0 m W → Calls Tryd.prog 4 #[.string ⟨#[120, 46, 97, 46, 98]⟩, .string ⟨#[97, 46, 98]⟩] W fun e W' => e = .returned (.bool true) ∧ Kp w0 m W') := fun W h => by have := below_kp w0 [120, 46, 97, 46, 98] [97, 46, 98] (by decide) (by decide) m W h; rw [e1] at this; exact this
  have d2 : Hid (∀ W, Kp w0 m W → Calls Tryd.prog 4 #[.string ⟨#[120, 97, 46, 98]⟩, .string ⟨#[97, 46, 98]⟩] W fun e W' => e = .returned (.bool false) ∧ Kp w0 m W') := fun W h => by have := below_kp w0 [120, 97, 46, 98] [97, 46, 98] (by decide) (by decide) m W h; rw [e2] at this; exact this
  have HM := hide hm
  clear e1 e2 hm
  go_enter Tryd.func7, Tryd.ntmps7
  go_wp2_with (first
    | (go_at_call_of 4 (Value.string ⟨#[120, 46, 97, 46, 98]⟩); refine (d1.out _ HM.out).mono ?_; rintro e w1 ⟨rfl, K1⟩; replace K1 := hide K1)
    | (go_at_call_of 4 (Value.string ⟨#[120, 97, 46, 98]⟩); refine (d2.out _ K1.out).mono ?_; rintro e w2 ⟨rfl, K2⟩))
  go_ret
  exact ⟨rfl, K2⟩

end Go.Proofs.YtfoacocnkdkdeaaDoor
