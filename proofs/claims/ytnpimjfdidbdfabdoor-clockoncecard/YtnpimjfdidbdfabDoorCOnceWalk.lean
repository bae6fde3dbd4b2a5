/-
  ClockOnce answers true at any tag and any bytes.
-/
import Derived.Test.YtnpimjfdidbdfabDoorOnceM
namespace Go.Proofs.YtnpimjfdidbdfabDoor
open Go.RowKit

theorem leapO : leapB 2000 = true := by decide

set_option maxRecDepth 100000 in
set_option maxHeartbeats 4000000 in
theorem conce_err (tag : Int) (ao : Option Addr) (n cap : Nat) (xs : List Int) (w : World) (ht : Tab w) (hs : Src w ao n cap xs) (hm : n ≤ 140737488355328) (he : (takS tag xs).2 ≠ 0) :
    Calls Tryd.prog 3 #[.int .i64 tag, .slice ao n cap] w fun e w' => e = .returned (.bool true) ∧ Below w.heap.size w w' := by
  have T1 := hide (take_any tag ao n cap xs w ht hs hm)
  rw [takS_err he] at T1
  have hl := leapO
  generalize (takS tag xs).2 = E at *
  have h0 : (E != 0) = true := by simp [he]
  clear he hs ht
  go_enter Tryd.func3, Tryd.ntmps3
  go_wp2_with fail
  refine T1.out.mono ?_
  rintro e w1 ⟨rfl, B1⟩
  go_wp2_with (go_at_call 7; refine (leap_any _ _).mono ?_; rintro e w5 ⟨rfl, rfl⟩)
  go_ret
  exact ⟨rfl, B1⟩

set_option maxRecDepth 100000 in
set_option maxHeartbeats 4000000 in
theorem conce_ok (tag t : Int) (ao : Option Addr) (n cap : Nat) (xs : List Int) (w : World) (ht : Tab w) (hs : Src w ao n cap xs) (hm : n ≤ 100) (he : takS tag xs = (t, 0))
    (P1 : ∀ W, Tab W → Calls Tryd.prog 8 #[.int .i64 t] W fun e w' => ∃ g cap, e = .returned (.tuple #[.int .i64 tag, .slice (some ⟨g, 0, none⟩) n cap, .int .i64 0]) ∧ RowB w' W.heap.size g n cap xs ∧ Below W.heap.size W w') :
    Calls Tryd.prog 3 #[.int .i64 tag, .slice ao n cap] w fun e w' => e = .returned (.bool true) ∧ Below w.heap.size w w' := by
  have T1 := hide (take_any tag ao n cap xs w ht hs (by omega))
  rw [he] at T1
  have P1 := hide P1
  have HT := hide ht
  have HS := hide hs
  have hl := leapO
  have q1 : (tag == tag) = true := by simp
  clear he hs ht
  go_enter Tryd.func3, Tryd.ntmps3
  go_wp2_with fail
  refine T1.out.mono ?_
  rintro e w1 ⟨rfl, B1⟩
  go_wp2_with fail
  refine (P1.out _ (HT.out.below B1)).mono ?_
  rintro e w2 ⟨g, c, rfl, row, B2⟩
  have BW := hide (B1.trans (B2.mono B1.size))
  have t1 := row.src.text
  have t2 := (HS.out.below BW.out).text
  have q2 : ((strOfNums xs).toList == (strOfNums xs).toList) = true := by simp
  generalize strOfNums xs = SX at *
  clear row B1 B2
  go_wp2_with (go_at_call 7; refine (leap_any _ _).mono ?_; rintro e w5 ⟨rfl, rfl⟩)
  go_ret
  exact ⟨rfl, BW.out⟩

theorem conce_walk (tag : Int) (ao : Option Addr) (n cap : Nat) (xs : List Int) (w : World) (ht : Tab w) (hs : Src w ao n cap xs) (hm : n ≤ 140737488355328) :
    Calls Tryd.prog 3 #[.int .i64 tag, .slice ao n cap] w fun e w' => e = .returned (.bool true) ∧ Below w.heap.size w w' := by
  by_cases he : (takS tag xs).2 = 0
  · obtain ⟨y, m, q, H, i, s, it, c, hc⟩ := takS_once he
    have e1 : takS tag xs = ((takS tag xs).1, 0) := by rw [← he]
    have hl := hs.hlen
    generalize (takS tag xs).1 = t at *
    rcases hc with ⟨rfl, hy, ec⟩ | ⟨rfl, hy, ec⟩
    · have hn : n = 13 := by rw [← hl, ← ec, conV_len]
      subst hn
      exact conce_ok 23 t ao 13 cap xs w ht hs (by omega) e1 (fun W hW => by rw [← ec]; exact put_gen2 t y m q H i s c.big hy W (civil_N it c W hW))
    · have hn : n = 15 := by rw [← hl, ← ec, conV_len]
      subst hn
      exact conce_ok 24 t ao 15 cap xs w ht hs (by omega) e1 (fun W hW => by rw [← ec]; exact put_gen4 t y m q H i s c.big hy W (civil_N it c W hW))
  · exact conce_err tag ao n cap xs w ht hs hm he

end Go.Proofs.YtnpimjfdidbdfabDoor
