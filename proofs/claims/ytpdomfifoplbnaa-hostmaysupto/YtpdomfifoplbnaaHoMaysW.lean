/-
  The statement HostMays: its walk.
-/
import Derived.Test.YtpdomfifoplbnaaHoW
import Derived.Test.YtpdomfifoplbnaaHoR5
namespace Go.Proofs.Ytpdomfifoplbnaa
open Go.RowKit Go.IntWalk

set_option maxRecDepth 100000 in
set_option maxHeartbeats 4000000 in
theorem mays_walk (s : List UInt8) (hs : s.length ≤ 1048576) (m : Int) (w : World) (hm : ML w m) :
    Calls Try.prog 3 #[.string (tx s)] w fun e w' => e = .returned (.bool true) ∧ Below w.heap.size w w' := by
  have hz : (tx s).size ≤ 1048576 := by rw [tx_size]; exact hs
  have a1 := hide (fun W h => dns_any s hs m W h)
  have a2 := hide (fun W => refDNS_any (tx s) hz W)
  have a3 := hide (fun W h => wild_any s hs m W h)
  have a4 := hide (fun W => refWild_any s hs W)
  have a5 := hide (fun W h => email_any s hs m W h)
  have a6 := hide (fun W => refEmail_any (tx s) hz W)
  have a7 := hide (fun W => ip_any s W)
  have a8 := hide (fun W => refIP_any s W)
  have a9 := hide (fun W h => works_any m W h)
  rw [tx_list] at a2 a6
  have HM := hide hm
  clear hz hm
  generalize dnsL s = x1 at a1 a2
  generalize wildL s = x2 at a3 a4
  generalize mailL s = x3 at a5 a6
  generalize ipL s = x4 at a7 a8
  cases x1 <;> cases x2 <;> cases x3 <;> cases x4
  all_goals go_enter Try.func3, Try.ntmps3
  all_goals go_wp2_with (first
    | (go_at_call 5; refine (a1.out _ HM.out).mono ?_; rintro e w1 ⟨rfl, B1⟩; have hm1 := hide (HM.out.below B1))
    | (go_at_call 6; refine (a2.out _).mono ?_; rintro e w2 ⟨rfl, B2⟩; have hm2 := hide (hm1.out.below B2))
    | (go_at_call 7; refine (a3.out _ hm2.out).mono ?_; rintro e w3 ⟨rfl, B3⟩; have hm3 := hide (hm2.out.below B3))
    | (go_at_call 8; refine (a4.out _).mono ?_; rintro e w4 ⟨rfl, B4⟩; have hm4 := hide (hm3.out.below B4))
    | (go_at_call 9; refine (a5.out _ hm4.out).mono ?_; rintro e w5 ⟨rfl, B5⟩; have hm5 := hide (hm4.out.below B5))
    | (go_at_call 10; refine (a6.out _).mono ?_; rintro e w6 ⟨rfl, B6⟩; have hm6 := hide (hm5.out.below B6))
    | (go_at_call 11; refine (a7.out _).mono ?_; rintro e w7 ⟨rfl, h7⟩; subst h7)
    | (go_at_call 12; refine (a8.out _).mono ?_; rintro e w8 ⟨rfl, h8⟩; subst h8)
    | (go_at_call 13; refine (a9.out _ hm6.out).mono ?_; rintro e w9 ⟨rfl, B9⟩))
  all_goals go_ret
  all_goals exact ⟨rfl, by
    have s1 := B1.size
    have s2 := B2.size
    have s3 := B3.size
    have s4 := B4.size
    have s5 := B5.size
    have s6 := B6.size
    exact (((((B1.trans (B2.mono s1)).trans (B3.mono (by omega))).trans (B4.mono (by omega))).trans (B5.mono (by omega))).trans (B6.mono (by omega))).trans (B9.mono (by omega))⟩

end Go.Proofs.Ytpdomfifoplbnaa
