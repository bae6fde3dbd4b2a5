/-
  The statements' own calls names, works and there answer true.
-/
import Derived.Test.YtpdomfifoplbnaaDoorHoE
namespace Go.Proofs.YtpdomfifoplbnaaDoor
open Go.RowKit Go.Shelf Go.IntWalk

set_option maxRecDepth 100000 in
theorem names_any (w : World) : Calls Tryd.prog 17 #[] w fun e w' => e = .returned (.bool true) ∧ w' = w := by
  go_enter Tryd.func17, Tryd.ntmps17
  go_wp2
  go_ret
  exact ⟨rfl, rfl⟩

set_option maxRecDepth 100000 in
set_option maxHeartbeats 1000000 in
theorem works_any (m : Int) (w : World) (hm : ML w m) :
    Calls Tryd.prog 6 #[] w fun e w' => e = .returned (.bool true) ∧ Below w.heap.size w w' := by
  have e1 : dnsL [97, 46, 98] = true := by decide
  have e2 : wildL [42, 46, 97, 46, 98] = true := by decide
  have e3 : mailL [97, 64, 98] = true := by decide
  have e4 : ipL [49, 50, 51, 52] = true := by decide
  have d1 : Hid (∀ W, ML W m → Calls Tryd.prog 7 #[.string ⟨#[97, 46, 98]⟩] W fun e w' => e = .returned (.bool true) ∧ Below W.heap.size W w') := fun W h => by have := dns_any [97, 46, 98] (by decide) m W h; rw [e1] at this; exact this
  have d2 : Hid (∀ W, ML W m → Calls Tryd.prog 9 #[.string ⟨#[42, 46, 97, 46, 98]⟩] W fun e w' => e = .returned (.bool true) ∧ Below W.heap.size W w') := fun W h => by have := wild_any [42, 46, 97, 46, 98] (by decide) m W h; rw [e2] at this; exact this
  have d3 : Hid (∀ W, ML W m → Calls Tryd.prog 15 #[.string ⟨#[97, 64, 98]⟩] W fun e w' => e = .returned (.bool true) ∧ Below W.heap.size W w') := fun W h => by have := email_any [97, 64, 98] (by decide) m W h; rw [e3] at this; exact this
  have d4 : Hid (∀ W, Calls Tryd.prog 16 #[.string ⟨#[49, 50, 51, 52]⟩] W fun e w' => e = .returned (.bool true) ∧ w' = W) := fun W => by have := ip_any [49, 50, 51, 52] W; rw [e4] at this; exact this
  have d5 := hide names_any
  have HM := hide hm
  clear e1 e2 e3 e4 hm
  go_enter Tryd.func6, Tryd.ntmps6
  go_wp2_with (first
    | (go_at_call 7; refine (d1.out _ HM.out).mono ?_; rintro e w1 ⟨rfl, h1⟩; have hm1 := hide (HM.out.below h1))
    | (go_at_call 9; refine (d2.out _ hm1.out).mono ?_; rintro e w2 ⟨rfl, h2⟩; have hm2 := hide (hm1.out.below h2))
    | (go_at_call 15; refine (d3.out _ hm2.out).mono ?_; rintro e w3 ⟨rfl, h3⟩)
    | (go_at_call 16; refine (d4.out _).mono ?_; rintro e w4 ⟨rfl, h4⟩; subst h4)
    | (go_at_call 17; refine (d5.out _).mono ?_; rintro e w5 ⟨rfl, h5⟩; subst h5))
  go_ret
  exact ⟨rfl, (h1.trans (h2.mono h1.size)).trans (h3.mono (Nat.le_trans h1.size h2.size))⟩

end Go.Proofs.YtpdomfifoplbnaaDoor
