/-
  ClockOrder answers true at any two numbers.
-/
import Derived.Test.YtnpimjfdidbdfabDoorOrdM
namespace Go.Proofs.YtnpimjfdidbdfabDoor
open Go.RowKit

theorem leap2k : leapB 2000 = true := by decide

set_option maxRecDepth 100000 in
set_option maxHeartbeats 2000000 in
theorem order_no (t u : Int) (h : ¬ isT t ∨ ¬ isT u) (w : World) (ht : Tab w) :
    Calls Tryd.prog 4 #[.int .i64 t, .int .i64 u] w fun x w' => x = .returned (.bool true) ∧ Below w.heap.size w w' := by
  have hl := leap2k
  have HT := hide ht
  clear ht
  by_cases h1 : isT t
  · obtain ⟨y, m, q, H, i, s, c⟩ := civN_ex h1
    have X1 := hide (fun W hW => text_N h1 c W hW)
    have X2 := hide (fun W => text_no u (by rcases h with h | h; exact absurd h1 h; exact h) W)
    generalize strOfNums (txtV y m q H i s) = T at *
    clear c h h1
    go_enter Tryd.func4, Tryd.ntmps4
    go_wp2_with fail
    refine (X1.out _ HT.out).mono ?_
    rintro x w1 ⟨rfl, B1⟩
    go_wp2_with fail
    refine (X2.out _).mono ?_
    rintro x w2 ⟨rfl, B2⟩
    go_wp2_with (go_at_call 7; refine (leap_any _ _).mono ?_; rintro x w3 ⟨rfl, rfl⟩)
    go_ret
    exact ⟨rfl, B1.trans (B2.mono B1.size)⟩
  · have X1 := hide (fun W => text_no t h1 W)
    have X2 : Hid (∃ T er, ∀ W, Tab W → Calls Tryd.prog 9 #[.int .i64 u] W fun x w' => x = .returned (.tuple #[.string T, .int .i64 er]) ∧ Below W.heap.size W w') := by
      by_cases h2 : isT u
      · obtain ⟨y, m, q, H, i, s, c⟩ := civN_ex h2
        exact ⟨_, _, fun W hW => text_N h2 c W hW⟩
      · exact ⟨_, _, fun W _ => text_no u h2 W⟩
    obtain ⟨T, er, X2⟩ := X2.out
    have X2 := hide X2
    clear h h1
    go_enter Tryd.func4, Tryd.ntmps4
    go_wp2_with fail
    refine (X1.out _).mono ?_
    rintro x w1 ⟨rfl, B1⟩
    go_wp2_with fail
    refine (X2.out _ (HT.out.below B1)).mono ?_
    rintro x w2 ⟨rfl, B2⟩
    go_wp2_with (go_at_call 7; refine (leap_any _ _).mono ?_; rintro x w3 ⟨rfl, rfl⟩)
    go_ret
    exact ⟨rfl, B1.trans (B2.mono B1.size)⟩

set_option maxRecDepth 100000 in
set_option maxHeartbeats 2000000 in
theorem order_yes (t u : Int) (h1 : isT t) (h2 : isT u) (w : World) (ht : Tab w) :
    Calls Tryd.prog 4 #[.int .i64 t, .int .i64 u] w fun x w' => x = .returned (.bool true) ∧ Below w.heap.size w w' := by
  have hl := leap2k
  have HT := hide ht
  clear ht
  obtain ⟨y, m, q, H, i, s, c⟩ := civN_ex h1
  obtain ⟨y', m', q', H', i', s', d⟩ := civN_ex h2
  have X1 := hide (fun W hW => text_N h1 c W hW)
  have X2 := hide (fun W hW => text_N h2 d W hW)
  obtain ⟨k1, k2⟩ := txt_cmp c d
  have z1 : (strOfNums (txtV y m q H i s)).size = 19 := by rw [strOfNums_size, txtV_len]
  generalize strOfNums (txtV y m q H i s) = T at *
  generalize strOfNums (txtV y' m' q' H' i' s') = U at *
  clear c d h1 h2
  have k3 : (decide (t < u) == decide (t < u)) = true := by simp
  have k4 : ((t == u) == (t == u)) = true := by simp
  go_enter Tryd.func4, Tryd.ntmps4
  go_wp2_with fail
  refine (X1.out _ HT.out).mono ?_
  rintro x w1 ⟨rfl, B1⟩
  go_wp2_with fail
  refine (X2.out _ (HT.out.below B1)).mono ?_
  rintro x w2 ⟨rfl, B2⟩
  go_wp2_with (go_at_call 7; refine (leap_any _ _).mono ?_; rintro x w3 ⟨rfl, rfl⟩)
  go_ret
  exact ⟨rfl, B1.trans (B2.mono B1.size)⟩

theorem order_walk (t u : Int) (w : World) (ht : Tab w) :
    Calls Tryd.prog 4 #[.int .i64 t, .int .i64 u] w fun x w' => x = .returned (.bool true) ∧ Below w.heap.size w w' := by
  by_cases h1 : isT t
  · by_cases h2 : isT u
    · exact order_yes t u h1 h2 w ht
    · exact order_no t u (.inr h2) w ht
  · exact order_no t u (.inl h1) w ht

end Go.Proofs.YtnpimjfdidbdfabDoor
