/-
  ClockBack answers true at any number.
-/
import Derived.Test.YtnpimjfdidbdfaaDoorTakM
namespace Go.Proofs.YtnpimjfdidbdfaaDoor
open Go.RowKit

theorem leapK : leapB 2000 = true := by decide

set_option maxRecDepth 100000 in
set_option maxHeartbeats 4000000 in
theorem cback_yes (t : Int) (ht : isT t) (tag : Int) (n : Nat) (XS : List Int) (y m q h i s : Nat) (c : CivN t y m q h i s) (hn : n ≤ 100) (hk : takS tag XS = (t, 0)) (w : World) (hw : Tab w)
    (P1 : ∀ W, Tab W → Calls Tryd.prog 23 #[.int .i64 t] W fun e w' => ∃ g cap, e = .returned (.tuple #[.int .i64 tag, .slice (some ⟨g, 0, none⟩) n cap, .int .i64 0]) ∧ RowB w' W.heap.size g n cap XS ∧ Below W.heap.size W w') :
    Calls Tryd.prog 8 #[.int .i64 t] w fun e w' => e = .returned (.bool true) ∧ Below w.heap.size w w' := by
  have C1 := hide (fun W hW => civil_N ht c W hW)
  have S1 := hide (fun W hW => seconds_ok y m q h i s c.ok W hW)
  rw [c.sec] at S1
  have P1 := hide P1
  have HK := hide hk
  have HT := hide hw
  have hl := leapK
  have qt : (t == t) = true := by simp
  clear hw hk c
  unfold isT at ht
  unfold agg6 at C1 S1
  go_enter Tryd.func8, Tryd.ntmps8
  go_wp2_with fail
  refine (C1.out _ HT.out).mono ?_
  rintro e w1 ⟨rfl, B1⟩
  have K1 := Six.new w1 23 y m q h i s rfl
  have B1' : Below w.heap.size w (w1.alloc (.cells #[.int .i64 y, .int .i64 m, .int .i64 q, .int .i64 h, .int .i64 i, .int .i64 s] 23)) := B1.alloc B1.size _
  have hlt : w1.heap.size < (w1.alloc (.cells #[.int .i64 y, .int .i64 m, .int .i64 q, .int .i64 h, .int .i64 i, .int .i64 s] 23)).heap.size := by simp
  go_wp2_with fail
  generalize w1.alloc (.cells #[.int .i64 y, .int .i64 m, .int .i64 q, .int .i64 h, .int .i64 i, .int .i64 s] 23) = W0 at *
  generalize w1.heap.size = g at *
  refine (P1.out _ (HT.out.below B1')).mono ?_
  rintro e w2 ⟨g2, cap, rfl, row, B2⟩
  have K2 := K1.below B2 hlt
  obtain ⟨c0, c1, c2, c3, c4, c5⟩ := K2
  have B2' := B1'.trans (B2.mono B1'.size)
  clear B1 B1' B2 K1
  go_wp2_with fail
  refine (S1.out _ (HT.out.below B2')).mono ?_
  rintro e w3 ⟨rfl, B3⟩
  have B3' := B2'.trans (B3.mono B2'.size)
  have row3 := row.below B3
  have T1 := hide (take_any tag (some ⟨g2, 0, none⟩) n cap XS w3 (HT.out.below B3') row3.src (by omega))
  rw [HK.out] at T1
  clear c0 c1 c2 c3 c4 c5 row row3 B3 B2'
  go_wp2_with fail
  refine T1.out.mono ?_
  rintro e w4 ⟨rfl, B4⟩
  have B4' := hide (B3'.trans (B4.mono B3'.size))
  clear B3' B4
  go_wp2_with (go_at_call 16; refine (leap_any _ _).mono ?_; rintro e w5 ⟨rfl, rfl⟩)
  go_ret
  exact ⟨rfl, B4'.out⟩

set_option maxRecDepth 100000 in
set_option maxHeartbeats 4000000 in
theorem cback_no (t : Int) (ht : ¬ isT t) (w : World) :
    Calls Tryd.prog 8 #[.int .i64 t] w fun e w' => e = .returned (.bool true) ∧ Below w.heap.size w w' := by
  have C1 := hide (fun W => civil_no t ht W)
  have P1 := hide (fun W => put_no t ht W)
  have hl := leapK
  have h' : t < -631152000 ∨ 253402300799 < t := by unfold isT at ht; omega
  clear ht
  unfold civ0 at C1
  rcases h' with h' | h'
  all_goals
    go_enter Tryd.func8, Tryd.ntmps8
    go_wp2_with fail
    refine (C1.out _).mono ?_
    rintro e w1 ⟨rfl, B1⟩
    have K1 := Six.new w1 23 0 0 0 0 0 0 rfl
    have B1' : Below w.heap.size w (w1.alloc (.cells #[.int .i64 0, .int .i64 0, .int .i64 0, .int .i64 0, .int .i64 0, .int .i64 0] 23)) := B1.alloc B1.size _
    have hlt : w1.heap.size < (w1.alloc (.cells #[.int .i64 0, .int .i64 0, .int .i64 0, .int .i64 0, .int .i64 0, .int .i64 0] 23)).heap.size := by simp
    go_wp2_with fail
    generalize w1.alloc (.cells #[.int .i64 0, .int .i64 0, .int .i64 0, .int .i64 0, .int .i64 0, .int .i64 0] 23) = W0 at *
    generalize w1.heap.size = g at *
    refine (P1.out _).mono ?_
    rintro e w2 ⟨rfl, B2⟩
    obtain ⟨c0, c1, c2, c3, c4, c5⟩ := K1.below B2 hlt
    have B2' := hide (B1'.trans (B2.mono B1'.size))
    clear B1 B1' B2 K1
    go_wp2_with (go_at_call 16; refine (leap_any _ _).mono ?_; rintro e w5 ⟨rfl, rfl⟩)
    go_ret
    exact ⟨rfl, B2'.out⟩

theorem cback_walk (t : Int) (w : World) (hw : Tab w) :
    Calls Tryd.prog 8 #[.int .i64 t] w fun e w' => e = .returned (.bool true) ∧ Below w.heap.size w w' := by
  by_cases ht : isT t
  · obtain ⟨y, m, q, h, i, s, c⟩ := civN_ex ht
    by_cases hY : (y : Int) ≤ 2049
    · exact cback_yes t ht 23 13 (conV 2 y m q h i s) y m q h i s c (by omega) (tak_conV2 c hY) w hw (fun W hW => put_gen2 t y m q h i s c.big hY W (civil_N ht c W hW))
    · exact cback_yes t ht 24 15 (conV 4 y m q h i s) y m q h i s c (by omega) (tak_conV4 c (by omega)) w hw (fun W hW => put_gen4 t y m q h i s c.big (by omega) W (civil_N ht c W hW))
  · exact cback_no t ht w

end Go.Proofs.YtnpimjfdidbdfaaDoor
