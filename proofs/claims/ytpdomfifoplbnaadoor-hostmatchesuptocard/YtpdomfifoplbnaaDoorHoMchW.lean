/-
  The statement HostMatches: its walk.
-/
import Derived.Test.YtpdomfifoplbnaaDoorHoRM
import Derived.Test.YtpdomfifoplbnaaDoorHoW
namespace Go.Proofs.YtpdomfifoplbnaaDoor
open Go.RowKit Go.IntWalk

set_option maxRecDepth 100000 in
set_option maxHeartbeats 4000000 in
theorem matches_walk (p s : List UInt8) (hp : p.length ≤ 1048576) (hs : s.length ≤ 1048576) (m : Int) (w : World) (hm : ML w m) :
    Calls Tryd.prog 3 #[.string (tx p), .string (tx s)] w fun e w' => e = .returned (.bool true) ∧ Below w.heap.size w w' := by
  have e1 : matchL [42, 46, 97, 46, 98] [120, 46, 97, 46, 98] = true := by decide
  have a1 := hide (match_any p s hp hs m w hm)
  have a2 := hide (fun W => refMatch_any p s hp hs W)
  have a3 : Hid (∀ W, ML W m → Calls Tryd.prog 4 #[.string ⟨#[42, 46, 97, 46, 98]⟩, .string ⟨#[120, 46, 97, 46, 98]⟩] W fun e w' => e = .returned (.bool true) ∧ Below W.heap.size W w') := fun W h => by have := match_any [42, 46, 97, 46, 98] [120, 46, 97, 46, 98] (by decide) (by decide) m W h; rw [e1] at this; exact this
  have a4 := hide (fun W h => works_any m W h)
  have HM := hide hm
  clear e1 hm
  generalize matchL p s = R at a1 a2
  cases R
  all_goals go_enter Tryd.func3, Tryd.ntmps3
  all_goals go_wp2_with (first
    | (go_at_call 6; refine (a4.out w3 hm3.out).mono ?_; rintro e w4 ⟨rfl, B4⟩)
    | (go_at_call 4; refine (a3.out w2 hm2.out).mono ?_; rintro e w3 ⟨rfl, B3⟩; have hm3 := hide (hm2.out.below B3))
    | (go_at_call 4; refine (a1.out).mono ?_; rintro e w1 ⟨rfl, B1⟩; have hm1 := hide (HM.out.below B1))
    | (go_at_call 5; refine (a2.out w1).mono ?_; rintro e w2 ⟨rfl, B2⟩; have hm2 := hide (hm1.out.below B2)))
  all_goals go_ret
  all_goals exact ⟨rfl, by
    have s1 := B1.size
    have s2 := B2.size
    have s3 := B3.size
    exact ((B1.trans (B2.mono s1)).trans (B3.mono (by omega))).trans (B4.mono (by omega))⟩

end Go.Proofs.YtpdomfifoplbnaaDoor
