/-
  The statement's own 'next': the time in the calendar one second behind another one.
-/
import Derived.Test.YtnpimjfdidbdfabDoorCCivil
import Derived.Deep.QuietTactic
import Derived.BigQuiet
namespace Go.Proofs.YtnpimjfdidbdfabDoor
open Go.RowKit

theorem setCell_dN (w : World) (n : Nat) (a : Addr) (v : Value) : (w.drewN n).setCell a v = (w.setCell a v).drewN n := rfl
theorem alloc_dN (w : World) (n : Nat) (o : Obj) : (w.drewN n).alloc o = (w.alloc o).drewN n := rfl
attribute [local go_sem] setCell_dN alloc_dN

theorem belowN {B : Nat} {a w : World} (h : Below B a w) (n : Nat) : Below B a (w.drewN n) := h.trans ⟨rfl, rfl, rfl, Nat.le_refl _, fun _ _ => rfl⟩

def agg6 (a b c d e f : Int) : Value := .agg #[.int .i64 a, .int .i64 b, .int .i64 c, .int .i64 d, .int .i64 e, .int .i64 f]

/-- A time in the calendar, in its bounds. -/
structure Okc (y m q h i s : Int) : Prop where
  y1 : 1950 ≤ y
  y2 : y ≤ 9999
  m1 : 1 ≤ m
  m2 : m ≤ 12
  q1 : 1 ≤ q
  q2 : q ≤ dim y m
  h1 : 0 ≤ h
  h2 : h < 24
  i1 : 0 ≤ i
  i2 : i < 60
  s1 : 0 ≤ s
  s2 : s < 60


set_option maxRecDepth 100000 in
set_option maxHeartbeats 4000000 in
theorem next_A (y m q h i s : Int) (ok : Okc y m q h i s) (hs : s < 59) (w : World) (ht : Tab w) :
    Calls Tryd.prog 12 #[agg6 y m q h i s] w fun e w' => e = .returned (agg6 y m q h i (s + 1)) ∧ Below w.heap.size w w' := by
  have HT : Hid (∀ o o', Tab ((w.alloc o).alloc o')) := fun o o' => ht.below (((Below.refl _ _).alloc (Nat.le_refl _) _).alloc (by simp) _)
  clear ht
  obtain ⟨y1, y2, m1, m2, q1, q2, h1, h2, i1, i2, s1, s2⟩ := ok
  have d1 := dim_in y m m1 m2
  have hq : ¬ dim y m < q := by omega
  unfold agg6
  go_enter Tryd.func12, Tryd.ntmps12
  go_wp2
  go_quiet ((go_at_call 23; exact Calls.quiet_of_same (days_any _ _ _ (Tab.heap (HT.out _ _) rfl))))
  go_wp2
  refine bodyPost_ret (v := agg6 y m q h i (s + 1)) (by simp [results, Tryd.results12, go_sem, agg6]) rfl ⟨rfl, ?_⟩
  exact belowN (((Below.refl _ _).alloc (Nat.le_refl _) _).alloc (by simp) _) _
set_option maxRecDepth 100000 in
set_option maxHeartbeats 4000000 in
theorem next_B (y m q h i s : Int) (ok : Okc y m q h i s) (hs : s = 59) (hi : i < 59) (w : World) (ht : Tab w) :
    Calls Tryd.prog 12 #[agg6 y m q h i s] w fun e w' => e = .returned (agg6 y m q h (i + 1) 0) ∧ Below w.heap.size w w' := by
  have HT : Hid (∀ o o', Tab ((w.alloc o).alloc o')) := fun o o' => ht.below (((Below.refl _ _).alloc (Nat.le_refl _) _).alloc (by simp) _)
  clear ht
  obtain ⟨y1, y2, m1, m2, q1, q2, h1, h2, i1, i2, s1, s2⟩ := ok
  have d1 := dim_in y m m1 m2
  (subst hs; have hq : ¬ dim y m < q := by omega)
  unfold agg6
  go_enter Tryd.func12, Tryd.ntmps12
  go_wp2
  go_quiet ((go_at_call 23; exact Calls.quiet_of_same (days_any _ _ _ (Tab.heap (HT.out _ _) rfl))))
  go_wp2
  refine bodyPost_ret (v := agg6 y m q h (i + 1) 0) (by simp [results, Tryd.results12, go_sem, agg6]) rfl ⟨rfl, ?_⟩
  exact belowN (((Below.refl _ _).alloc (Nat.le_refl _) _).alloc (by simp) _) _
set_option maxRecDepth 100000 in
set_option maxHeartbeats 4000000 in
theorem next_C (y m q h i s : Int) (ok : Okc y m q h i s) (hs : s = 59) (hi : i = 59) (hh : h < 23) (w : World) (ht : Tab w) :
    Calls Tryd.prog 12 #[agg6 y m q h i s] w fun e w' => e = .returned (agg6 y m q (h + 1) 0 0) ∧ Below w.heap.size w w' := by
  have HT : Hid (∀ o o', Tab ((w.alloc o).alloc o')) := fun o o' => ht.below (((Below.refl _ _).alloc (Nat.le_refl _) _).alloc (by simp) _)
  clear ht
  obtain ⟨y1, y2, m1, m2, q1, q2, h1, h2, i1, i2, s1, s2⟩ := ok
  have d1 := dim_in y m m1 m2
  (subst hs hi; have hq : ¬ dim y m < q := by omega)
  unfold agg6
  go_enter Tryd.func12, Tryd.ntmps12
  go_wp2
  go_quiet ((go_at_call 23; exact Calls.quiet_of_same (days_any _ _ _ (Tab.heap (HT.out _ _) rfl))))
  go_wp2
  refine bodyPost_ret (v := agg6 y m q (h + 1) 0 0) (by simp [results, Tryd.results12, go_sem, agg6]) rfl ⟨rfl, ?_⟩
  exact belowN (((Below.refl _ _).alloc (Nat.le_refl _) _).alloc (by simp) _) _
set_option maxRecDepth 100000 in
set_option maxHeartbeats 4000000 in
theorem next_D (y m q h i s : Int) (ok : Okc y m q h i s) (hs : s = 59) (hi : i = 59) (hh : h = 23) (hq' : q < dim y m) (w : World) (ht : Tab w) :
    Calls Tryd.prog 12 #[agg6 y m q h i s] w fun e w' => e = .returned (agg6 y m (q + 1) 0 0 0) ∧ Below w.heap.size w w' := by
  have HT : Hid (∀ o o', Tab ((w.alloc o).alloc o')) := fun o o' => ht.below (((Below.refl _ _).alloc (Nat.le_refl _) _).alloc (by simp) _)
  clear ht
  obtain ⟨y1, y2, m1, m2, q1, q2, h1, h2, i1, i2, s1, s2⟩ := ok
  have d1 := dim_in y m m1 m2
  (subst hs hi hh; have hq : ¬ dim y m < q + 1 := by omega)
  unfold agg6
  go_enter Tryd.func12, Tryd.ntmps12
  go_wp2
  go_quiet ((go_at_call 23; exact Calls.quiet_of_same (days_any _ _ _ (Tab.heap (HT.out _ _) rfl))))
  go_wp2
  refine bodyPost_ret (v := agg6 y m (q + 1) 0 0 0) (by simp [results, Tryd.results12, go_sem, agg6]) rfl ⟨rfl, ?_⟩
  exact belowN (((Below.refl _ _).alloc (Nat.le_refl _) _).alloc (by simp) _) _
set_option maxRecDepth 100000 in
set_option maxHeartbeats 4000000 in
theorem next_E (y m q h i s : Int) (ok : Okc y m q h i s) (hs : s = 59) (hi : i = 59) (hh : h = 23) (hq' : q = dim y m) (hm : m < 12) (w : World) (ht : Tab w) :
    Calls Tryd.prog 12 #[agg6 y m q h i s] w fun e w' => e = .returned (agg6 y (m + 1) 1 0 0 0) ∧ Below w.heap.size w w' := by
  have HT : Hid (∀ o o', Tab ((w.alloc o).alloc o')) := fun o o' => ht.below (((Below.refl _ _).alloc (Nat.le_refl _) _).alloc (by simp) _)
  clear ht
  obtain ⟨y1, y2, m1, m2, q1, q2, h1, h2, i1, i2, s1, s2⟩ := ok
  have d1 := dim_in y m m1 m2
  (subst hs hi hh; have hq : dim y m < q + 1 := by omega); clear hq'
  unfold agg6
  go_enter Tryd.func12, Tryd.ntmps12
  go_wp2
  go_quiet ((go_at_call 23; exact Calls.quiet_of_same (days_any _ _ _ (Tab.heap (HT.out _ _) rfl))))
  go_wp2
  refine bodyPost_ret (v := agg6 y (m + 1) 1 0 0 0) (by simp [results, Tryd.results12, go_sem, agg6]) rfl ⟨rfl, ?_⟩
  exact belowN (((Below.refl _ _).alloc (Nat.le_refl _) _).alloc (by simp) _) _
set_option maxRecDepth 100000 in
set_option maxHeartbeats 4000000 in
theorem next_F (y m q h i s : Int) (ok : Okc y m q h i s) (hs : s = 59) (hi : i = 59) (hh : h = 23) (hq' : q = dim y m) (hm : m = 12) (w : World) (ht : Tab w) :
    Calls Tryd.prog 12 #[agg6 y m q h i s] w fun e w' => e = .returned (agg6 (y + 1) 1 1 0 0 0) ∧ Below w.heap.size w w' := by
  have HT : Hid (∀ o o', Tab ((w.alloc o).alloc o')) := fun o o' => ht.below (((Below.refl _ _).alloc (Nat.le_refl _) _).alloc (by simp) _)
  clear ht
  obtain ⟨y1, y2, m1, m2, q1, q2, h1, h2, i1, i2, s1, s2⟩ := ok
  have d1 := dim_in y m m1 m2
  (subst hs hi hh hm; have hq : dim y 12 < q + 1 := by omega); clear hq'
  unfold agg6
  go_enter Tryd.func12, Tryd.ntmps12
  go_wp2
  go_quiet ((go_at_call 23; exact Calls.quiet_of_same (days_any _ _ _ (Tab.heap (HT.out _ _) rfl))))
  go_wp2
  refine bodyPost_ret (v := agg6 (y + 1) 1 1 0 0 0) (by simp [results, Tryd.results12, go_sem, agg6]) rfl ⟨rfl, ?_⟩
  exact belowN (((Below.refl _ _).alloc (Nat.le_refl _) _).alloc (by simp) _) _

end Go.Proofs.YtnpimjfdidbdfabDoor
