/-
  ClockSeconds answers true at any time in the calendar, or what is none.
-/
import Derived.Test.YtnpimjfdidbdfaaDoorCSec2
import Derived.Test.YtnpimjfdidbdfaaDoorCSecR
namespace Go.Proofs.YtnpimjfdidbdfaaDoor
open Go.RowKit

theorem sec_same (y m q h i s : Int) : secV y m q h i s = secW y m q h i s := by
  unfold secV secW
  omega


set_option maxRecDepth 100000 in
set_option maxHeartbeats 2000000 in
theorem seconds_walk_ok (y m q h i s : Int) (ok : Okc y m q h i s) (w : World) (ht : Tab w) :
    Calls Tryd.prog 4 #[agg6 y m q h i s] w fun e w' => e = .returned (.bool true) ∧ Below w.heap.size w w' := by
  have C1 := hide (fun W hW => seconds_ok y m q h i s ok W hW)
  have C2 := hide (fun W => refSeconds_ok y m q h i s ok W)
  rw [sec_same] at C1
  generalize secW y m q h i s = V at *
  have hv : (V == V) = true := by simp
  clear ok
  have hl : leapB 2000 = true := by decide
  have K1 := hide (Six.new w 23 y m q h i s rfl)
  have HT : Hid (∀ o, Tab (w.alloc o)) := fun o => ht.below ((Below.refl _ _).alloc (Nat.le_refl _) _)
  clear ht
  unfold agg6 at C1 C2 ⊢
  go_enter Tryd.func4, Tryd.ntmps4
  go_wp2_with fail
  refine (C1.out _ (HT.out _)).mono ?_
  rintro e w1 ⟨rfl, B1⟩
  obtain ⟨c0, c1, c2, c3, c4, c5⟩ := K1.out.belowH B1 rfl (by simp)
  go_wp2_with fail
  refine (C2.out _).mono ?_
  rintro e w2 ⟨rfl, B2⟩
  go_wp2_with (first | (go_at_call 16; refine (leap_any _ _).mono ?_; rintro e w3 ⟨rfl, rfl⟩) | (go_at_call 17; refine (namesC_any _).mono ?_; rintro e w4 ⟨rfl, rfl⟩))
  go_ret
  exact ⟨rfl, (((Below.refl _ _).alloc (Nat.le_refl _) _).trans (B1.mono (by simp))).trans (B2.mono (by have := B1.size; simp at this; omega))⟩

set_option maxRecDepth 100000 in
set_option maxHeartbeats 2000000 in
theorem seconds_walk_no (y m q h i s : Int) (no : ¬ Okc y m q h i s) (w : World) (ht : Tab w) :
    Calls Tryd.prog 4 #[agg6 y m q h i s] w fun e w' => e = .returned (.bool true) ∧ Below w.heap.size w w' := by
  have C1 := hide (fun W hW => seconds_no y m q h i s no W hW)
  have C2 := hide (fun W => refSeconds_no y m q h i s no W)
  clear no
  have hl : leapB 2000 = true := by decide
  have K1 := hide (Six.new w 23 y m q h i s rfl)
  have HT : Hid (∀ o, Tab (w.alloc o)) := fun o => ht.below ((Below.refl _ _).alloc (Nat.le_refl _) _)
  clear ht
  unfold agg6 at C1 C2 ⊢
  go_enter Tryd.func4, Tryd.ntmps4
  go_wp2_with fail
  refine (C1.out _ (HT.out _)).mono ?_
  rintro e w1 ⟨rfl, B1⟩
  obtain ⟨c0, c1, c2, c3, c4, c5⟩ := K1.out.belowH B1 rfl (by simp)
  go_wp2_with fail
  refine (C2.out _).mono ?_
  rintro e w2 ⟨rfl, B2⟩
  go_wp2_with (first | (go_at_call 16; refine (leap_any _ _).mono ?_; rintro e w3 ⟨rfl, rfl⟩) | (go_at_call 17; refine (namesC_any _).mono ?_; rintro e w4 ⟨rfl, rfl⟩))
  go_ret
  exact ⟨rfl, (((Below.refl _ _).alloc (Nat.le_refl _) _).trans (B1.mono (by simp))).trans (B2.mono (by have := B1.size; simp at this; omega))⟩

theorem seconds_walk (y m q h i s : Int) (w : World) (ht : Tab w) :
    Calls Tryd.prog 4 #[agg6 y m q h i s] w fun e w' => e = .returned (.bool true) ∧ Below w.heap.size w w' := by
  by_cases ok : Okc y m q h i s
  · exact seconds_walk_ok y m q h i s ok w ht
  · exact seconds_walk_no y m q h i s ok w ht

end Go.Proofs.YtnpimjfdidbdfaaDoor
