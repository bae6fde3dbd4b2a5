/-
  clock.bounded and clock.Seconds.
-/
import Derived.Test.YtnpimjfdidbdfabDoorCSec
import Derived.Test.YtnpimjfdidbdfabDoorCSix
namespace Go.Proofs.YtnpimjfdidbdfabDoor
open Go.RowKit
attribute [local go_sem] setCell_dN alloc_dN

set_option maxRecDepth 100000 in
set_option maxHeartbeats 4000000 in
theorem bounded_any (y m q h i s : Int) (w : World) (ht : Tab w) :
    Calls Tryd.prog 25 #[agg6 y m q h i s] w fun e w' => e = .returned (agg6 (btw y 1950 9999) (btw m 1 12) (btw q 1 (dim (btw y 1950 9999) (btw m 1 12))) (btw h 0 23) (btw i 0 59) (btw s 0 59)) ∧ Below w.heap.size w w' := by
  have HT : Hid (∀ o o', Tab ((w.alloc o).alloc o')) := fun o o' => ht.below (((Below.refl _ _).alloc (Nat.le_refl _) _).alloc (by simp) _)
  clear ht
  have c1 := hide (fun W => between_any y 1950 9999 W)
  have c2 := hide (fun W => between_any m 1 12 W)
  have c4 := hide (fun W => between_any h 0 23 W)
  have c5 := hide (fun W => between_any i 0 59 W)
  have c6 := hide (fun W => between_any s 0 59 W)
  generalize btw y 1950 9999 = Y at *
  generalize btw m 1 12 = M at *
  generalize btw h 0 23 = H at *
  generalize btw i 0 59 = I at *
  generalize btw s 0 59 = S at *
  unfold agg6
  go_enter Tryd.func25, Tryd.ntmps25
  go_wp2
  go_quiet ((first | (go_at_call_of 30 (Value.int .i64 y); exact Calls.quiet_of_same (c1.out _)) | (go_at_call_of 30 (Value.int .i64 m); exact Calls.quiet_of_same (c2.out _))))
  go_wp2
  go_region_held3 (fun W => W.cell? ⟨w.heap.size, 2, none⟩ = some (.int .i64 q) ∧ W.cell? ⟨w.heap.size, 3, none⟩ = some (.int .i64 h) ∧ W.cell? ⟨w.heap.size, 4, none⟩ = some (.int .i64 i) ∧ W.cell? ⟨w.heap.size, 5, none⟩ = some (.int .i64 s)) (go_keep)
    (first | (go_at_call 23; refine (days_any _ _ _ ?_).mono ?_; exact Tab.heap (HT.out _ _) rfl; rintro e w2 ⟨rfl, hw⟩; have hw2 := hw.symm; subst hw2) | (go_at_call_of 30 (Value.int .i64 q); refine (between_any _ _ _ _).mono ?_; rintro e w2 ⟨rfl, hw⟩; have hw2 := hw.symm; subst hw2) | (go_at_call_of 30 (Value.int .i64 h); refine (c4.out _).mono ?_; rintro e w2 ⟨rfl, hw⟩; have hw2 := hw.symm; subst hw2) | (go_at_call_of 30 (Value.int .i64 i); refine (c5.out _).mono ?_; rintro e w2 ⟨rfl, hw⟩; have hw2 := hw.symm; subst hw2) | (go_at_call_of 30 (Value.int .i64 s); refine (c6.out _).mono ?_; rintro e w2 ⟨rfl, hw⟩; have hw2 := hw.symm; subst hw2))
  go_wp2
  refine bodyPost_ret (v := agg6 Y M (btw q 1 (dim Y M)) H I S) (by simp [results, Tryd.results25, go_sem, agg6]) rfl ⟨rfl, ?_⟩
  exact belowN (((Below.refl _ _).alloc (Nat.le_refl _) _).alloc (by simp) _) _

theorem bounded_ok {y m q h i s : Int} (ok : Okc y m q h i s) : btw y 1950 9999 = y ∧ btw m 1 12 = m ∧ btw q 1 (dim y m) = q ∧ btw h 0 23 = h ∧ btw i 0 59 = i ∧ btw s 0 59 = s := by
  obtain ⟨y1, y2, m1, m2, q1, q2, h1, h2, i1, i2, s1, s2⟩ := ok
  refine ⟨((btw_eq (by omega)).2 ⟨y1, y2⟩).symm, ((btw_eq (by omega)).2 ⟨m1, m2⟩).symm, ((btw_eq (by omega)).2 ⟨q1, q2⟩).symm, ((btw_eq (by omega)).2 ⟨h1, by omega⟩).symm, ((btw_eq (by omega)).2 ⟨i1, by omega⟩).symm, ((btw_eq (by omega)).2 ⟨s1, by omega⟩).symm⟩

theorem bounded_no {y m q h i s : Int} (e1 : y = btw y 1950 9999) (e2 : m = btw m 1 12) (e3 : q = btw q 1 (dim y m)) (e4 : h = btw h 0 23) (e5 : i = btw i 0 59) (e6 : s = btw s 0 59) : Okc y m q h i s := by
  have f1 := (btw_eq (by omega)).1 e1
  have f2 := (btw_eq (by omega)).1 e2
  have f3 := (btw_eq (dim_pos y m f2.1 f2.2)).1 e3
  have f4 := (btw_eq (by omega)).1 e4
  have f5 := (btw_eq (by omega)).1 e5
  have f6 := (btw_eq (by omega)).1 e6
  exact ⟨f1.1, f1.2, f2.1, f2.2, f3.1, f3.2, f4.1, by omega, f5.1, by omega, f6.1, by omega⟩

/-- The seconds of a time in the calendar. -/
def secV (y m q h i s : Int) : Int := -631152000 + (dby y + cum y m + q - 1) * 86400 + h * 3600 + i * 60 + s


set_option maxRecDepth 100000 in
set_option maxHeartbeats 4000000 in
theorem seconds_ok (y m q h i s : Int) (ok : Okc y m q h i s) (w : World) (ht : Tab w) :
    Calls Tryd.prog 17 #[agg6 y m q h i s] w fun e w' => e = .returned (.tuple #[.int .i64 (secV y m q h i s), .int .i64 0]) ∧ Below w.heap.size w w' := by
  have HT : Hid (∀ o, Tab (w.alloc o)) := fun o => ht.below ((Below.refl _ _).alloc (Nat.le_refl _) _)
  clear ht
  have cb := hide (fun W hW => bounded_any y m q h i s W hW)
  obtain ⟨e1, e2, e3, e4, e5, e6⟩ := bounded_ok ok
  rw [e1, e2, e3, e4, e5, e6] at cb
  clear e1 e2 e3 e4 e5 e6
  obtain ⟨y1, y2, m1, m2, q1, q2, h1, h2, i1, i2, s1, s2⟩ := ok
  have d1 := dim_in y m m1 m2
  have d2 := cum_in y m m1 (by omega)
  have d3 := dby_in y y1 (by omega)
  have cy := hide (fun W => yearBegin_any y y1 y2 W)
  have cm := hide (fun W hW => monthBegin_any y m m1 m2 W hW)
  have E : Hid (secV y m q h i s = -631152000 + (dby y + cum y m + q - 1) * 86400 + h * 3600 + i * 60 + s) := rfl
  generalize secV y m q h i s = V at *
  generalize dby y = A at *
  generalize cum y m = C at *
  have K1 := hide (Six.new w 34 y m q h i s rfl)
  unfold agg6 at cb ⊢
  go_enter Tryd.func17, Tryd.ntmps17
  go_wp2
  go_region_held3 (fun W => W.cell? ⟨w.heap.size, 0, none⟩ = some (.int .i64 y) ∧ W.cell? ⟨w.heap.size, 1, none⟩ = some (.int .i64 m) ∧ W.cell? ⟨w.heap.size, 2, none⟩ = some (.int .i64 q) ∧ W.cell? ⟨w.heap.size, 3, none⟩ = some (.int .i64 h) ∧ W.cell? ⟨w.heap.size, 4, none⟩ = some (.int .i64 i) ∧ W.cell? ⟨w.heap.size, 5, none⟩ = some (.int .i64 s)) (go_keep) (first | (go_at_call 25; refine (cb.out _ ?_).mono ?_; exact Tab.heap (HT.out _) rfl; rintro e w5 ⟨rfl, B5⟩; have n6 := K1.out.belowH B5 rfl (by simp); obtain ⟨c0, c1, c2, c3, c4, c5⟩ := n6))
  have HT5 : Hid (Tab w5) := (HT.out _).belowH B5 rfl
  go_wp2
  go_quiet ((first | (go_at_call 26; exact Calls.quiet_of_same (cy.out _)) | (go_at_call 27; exact Calls.quiet_of_same (cm.out _ (Tab.heap HT5.out rfl)))))
  go_wp2
  go_ret2
  exact ⟨ret_int2 (by rw [E.out]) rfl, belowN (((Below.refl _ _).alloc (Nat.le_refl _) _).drew.trans (B5.mono (by simp))) _⟩

set_option maxRecDepth 100000 in
set_option maxHeartbeats 4000000 in
theorem seconds_no1 (y m q h i s : Int) (e1 : ¬ y = btw y 1950 9999) (w : World) (ht : Tab w) :
    Calls Tryd.prog 17 #[agg6 y m q h i s] w fun e w' => e = .returned (.tuple #[.int .i64 0, .int .i64 40]) ∧ Below w.heap.size w w' := by
  have HT : Hid (∀ o, Tab (w.alloc o)) := fun o => ht.below ((Below.refl _ _).alloc (Nat.le_refl _) _)
  clear ht
  have cb := hide (fun W hW => bounded_any y m q h i s W hW)
  skip
  generalize btw y 1950 9999 = Y at *
  generalize btw m 1 12 = M at *
  generalize btw q 1 (dim Y M) = Q at *
  generalize btw h 0 23 = H at *
  generalize btw i 0 59 = I at *
  generalize btw s 0 59 = S at *
  skip
  have K1 := hide (Six.new w 34 y m q h i s rfl)
  unfold agg6 at cb ⊢
  go_enter Tryd.func17, Tryd.ntmps17
  go_wp2
  go_region_held3 (fun W => W.cell? ⟨w.heap.size, 0, none⟩ = some (.int .i64 y) ∧ W.cell? ⟨w.heap.size, 1, none⟩ = some (.int .i64 m) ∧ W.cell? ⟨w.heap.size, 2, none⟩ = some (.int .i64 q) ∧ W.cell? ⟨w.heap.size, 3, none⟩ = some (.int .i64 h) ∧ W.cell? ⟨w.heap.size, 4, none⟩ = some (.int .i64 i) ∧ W.cell? ⟨w.heap.size, 5, none⟩ = some (.int .i64 s)) (go_keep) (first | (go_at_call 25; refine (cb.out _ ?_).mono ?_; exact Tab.heap (HT.out _) rfl; rintro e w5 ⟨rfl, B5⟩; have n6 := K1.out.belowH B5 rfl (by simp); obtain ⟨c0, c1, c2, c3, c4, c5⟩ := n6))
  go_wp2
  go_ret2
  exact ⟨rfl, ((Below.refl _ _).alloc (Nat.le_refl _) _).drew.trans (B5.mono (by simp))⟩
set_option maxRecDepth 100000 in
set_option maxHeartbeats 4000000 in
theorem seconds_no2 (y m q h i s : Int) (e1 : y = btw y 1950 9999) (e2 : ¬ m = btw m 1 12) (w : World) (ht : Tab w) :
    Calls Tryd.prog 17 #[agg6 y m q h i s] w fun e w' => e = .returned (.tuple #[.int .i64 0, .int .i64 40]) ∧ Below w.heap.size w w' := by
  have HT : Hid (∀ o, Tab (w.alloc o)) := fun o => ht.below ((Below.refl _ _).alloc (Nat.le_refl _) _)
  clear ht
  have cb := hide (fun W hW => bounded_any y m q h i s W hW)
  skip
  generalize btw y 1950 9999 = Y at *
  generalize btw m 1 12 = M at *
  generalize btw q 1 (dim Y M) = Q at *
  generalize btw h 0 23 = H at *
  generalize btw i 0 59 = I at *
  generalize btw s 0 59 = S at *
  subst e1
  have K1 := hide (Six.new w 34 y m q h i s rfl)
  unfold agg6 at cb ⊢
  go_enter Tryd.func17, Tryd.ntmps17
  go_wp2
  go_region_held3 (fun W => W.cell? ⟨w.heap.size, 0, none⟩ = some (.int .i64 y) ∧ W.cell? ⟨w.heap.size, 1, none⟩ = some (.int .i64 m) ∧ W.cell? ⟨w.heap.size, 2, none⟩ = some (.int .i64 q) ∧ W.cell? ⟨w.heap.size, 3, none⟩ = some (.int .i64 h) ∧ W.cell? ⟨w.heap.size, 4, none⟩ = some (.int .i64 i) ∧ W.cell? ⟨w.heap.size, 5, none⟩ = some (.int .i64 s)) (go_keep) (first | (go_at_call 25; refine (cb.out _ ?_).mono ?_; exact Tab.heap (HT.out _) rfl; rintro e w5 ⟨rfl, B5⟩; have n6 := K1.out.belowH B5 rfl (by simp); obtain ⟨c0, c1, c2, c3, c4, c5⟩ := n6))
  go_wp2
  go_ret2
  exact ⟨rfl, ((Below.refl _ _).alloc (Nat.le_refl _) _).drew.trans (B5.mono (by simp))⟩
set_option maxRecDepth 100000 in
set_option maxHeartbeats 4000000 in
theorem seconds_no3 (y m q h i s : Int) (e1 : y = btw y 1950 9999) (e2 : m = btw m 1 12) (e3 : ¬ q = btw q 1 (dim (btw y 1950 9999) (btw m 1 12))) (w : World) (ht : Tab w) :
    Calls Tryd.prog 17 #[agg6 y m q h i s] w fun e w' => e = .returned (.tuple #[.int .i64 0, .int .i64 40]) ∧ Below w.heap.size w w' := by
  have HT : Hid (∀ o, Tab (w.alloc o)) := fun o => ht.below ((Below.refl _ _).alloc (Nat.le_refl _) _)
  clear ht
  have cb := hide (fun W hW => bounded_any y m q h i s W hW)
  skip
  generalize btw y 1950 9999 = Y at *
  generalize btw m 1 12 = M at *
  generalize btw q 1 (dim Y M) = Q at *
  generalize btw h 0 23 = H at *
  generalize btw i 0 59 = I at *
  generalize btw s 0 59 = S at *
  subst e1 e2
  have K1 := hide (Six.new w 34 y m q h i s rfl)
  unfold agg6 at cb ⊢
  go_enter Tryd.func17, Tryd.ntmps17
  go_wp2
  go_region_held3 (fun W => W.cell? ⟨w.heap.size, 0, none⟩ = some (.int .i64 y) ∧ W.cell? ⟨w.heap.size, 1, none⟩ = some (.int .i64 m) ∧ W.cell? ⟨w.heap.size, 2, none⟩ = some (.int .i64 q) ∧ W.cell? ⟨w.heap.size, 3, none⟩ = some (.int .i64 h) ∧ W.cell? ⟨w.heap.size, 4, none⟩ = some (.int .i64 i) ∧ W.cell? ⟨w.heap.size, 5, none⟩ = some (.int .i64 s)) (go_keep) (first | (go_at_call 25; refine (cb.out _ ?_).mono ?_; exact Tab.heap (HT.out _) rfl; rintro e w5 ⟨rfl, B5⟩; have n6 := K1.out.belowH B5 rfl (by simp); obtain ⟨c0, c1, c2, c3, c4, c5⟩ := n6))
  go_wp2
  go_ret2
  exact ⟨rfl, ((Below.refl _ _).alloc (Nat.le_refl _) _).drew.trans (B5.mono (by simp))⟩
set_option maxRecDepth 100000 in
set_option maxHeartbeats 4000000 in
theorem seconds_no4 (y m q h i s : Int) (e1 : y = btw y 1950 9999) (e2 : m = btw m 1 12) (e3 : q = btw q 1 (dim (btw y 1950 9999) (btw m 1 12))) (e4 : ¬ h = btw h 0 23) (w : World) (ht : Tab w) :
    Calls Tryd.prog 17 #[agg6 y m q h i s] w fun e w' => e = .returned (.tuple #[.int .i64 0, .int .i64 40]) ∧ Below w.heap.size w w' := by
  have HT : Hid (∀ o, Tab (w.alloc o)) := fun o => ht.below ((Below.refl _ _).alloc (Nat.le_refl _) _)
  clear ht
  have cb := hide (fun W hW => bounded_any y m q h i s W hW)
  skip
  generalize btw y 1950 9999 = Y at *
  generalize btw m 1 12 = M at *
  generalize btw q 1 (dim Y M) = Q at *
  generalize btw h 0 23 = H at *
  generalize btw i 0 59 = I at *
  generalize btw s 0 59 = S at *
  subst e1 e2 e3
  have K1 := hide (Six.new w 34 y m q h i s rfl)
  unfold agg6 at cb ⊢
  go_enter Tryd.func17, Tryd.ntmps17
  go_wp2
  go_region_held3 (fun W => W.cell? ⟨w.heap.size, 0, none⟩ = some (.int .i64 y) ∧ W.cell? ⟨w.heap.size, 1, none⟩ = some (.int .i64 m) ∧ W.cell? ⟨w.heap.size, 2, none⟩ = some (.int .i64 q) ∧ W.cell? ⟨w.heap.size, 3, none⟩ = some (.int .i64 h) ∧ W.cell? ⟨w.heap.size, 4, none⟩ = some (.int .i64 i) ∧ W.cell? ⟨w.heap.size, 5, none⟩ = some (.int .i64 s)) (go_keep) (first | (go_at_call 25; refine (cb.out _ ?_).mono ?_; exact Tab.heap (HT.out _) rfl; rintro e w5 ⟨rfl, B5⟩; have n6 := K1.out.belowH B5 rfl (by simp); obtain ⟨c0, c1, c2, c3, c4, c5⟩ := n6))
  go_wp2
  go_ret2
  exact ⟨rfl, ((Below.refl _ _).alloc (Nat.le_refl _) _).drew.trans (B5.mono (by simp))⟩
set_option maxRecDepth 100000 in
set_option maxHeartbeats 4000000 in
theorem seconds_no5 (y m q h i s : Int) (e1 : y = btw y 1950 9999) (e2 : m = btw m 1 12) (e3 : q = btw q 1 (dim (btw y 1950 9999) (btw m 1 12))) (e4 : h = btw h 0 23) (e5 : ¬ i = btw i 0 59) (w : World) (ht : Tab w) :
    Calls Tryd.prog 17 #[agg6 y m q h i s] w fun e w' => e = .returned (.tuple #[.int .i64 0, .int .i64 40]) ∧ Below w.heap.size w w' := by
  have HT : Hid (∀ o, Tab (w.alloc o)) := fun o => ht.below ((Below.refl _ _).alloc (Nat.le_refl _) _)
  clear ht
  have cb := hide (fun W hW => bounded_any y m q h i s W hW)
  skip
  generalize btw y 1950 9999 = Y at *
  generalize btw m 1 12 = M at *
  generalize btw q 1 (dim Y M) = Q at *
  generalize btw h 0 23 = H at *
  generalize btw i 0 59 = I at *
  generalize btw s 0 59 = S at *
  subst e1 e2 e3 e4
  have K1 := hide (Six.new w 34 y m q h i s rfl)
  unfold agg6 at cb ⊢
  go_enter Tryd.func17, Tryd.ntmps17
  go_wp2
  go_region_held3 (fun W => W.cell? ⟨w.heap.size, 0, none⟩ = some (.int .i64 y) ∧ W.cell? ⟨w.heap.size, 1, none⟩ = some (.int .i64 m) ∧ W.cell? ⟨w.heap.size, 2, none⟩ = some (.int .i64 q) ∧ W.cell? ⟨w.heap.size, 3, none⟩ = some (.int .i64 h) ∧ W.cell? ⟨w.heap.size, 4, none⟩ = some (.int .i64 i) ∧ W.cell? ⟨w.heap.size, 5, none⟩ = some (.int .i64 s)) (go_keep) (first | (go_at_call 25; refine (cb.out _ ?_).mono ?_; exact Tab.heap (HT.out _) rfl; rintro e w5 ⟨rfl, B5⟩; have n6 := K1.out.belowH B5 rfl (by simp); obtain ⟨c0, c1, c2, c3, c4, c5⟩ := n6))
  go_wp2
  go_ret2
  exact ⟨rfl, ((Below.refl _ _).alloc (Nat.le_refl _) _).drew.trans (B5.mono (by simp))⟩
set_option maxRecDepth 100000 in
set_option maxHeartbeats 4000000 in
theorem seconds_no6 (y m q h i s : Int) (e1 : y = btw y 1950 9999) (e2 : m = btw m 1 12) (e3 : q = btw q 1 (dim (btw y 1950 9999) (btw m 1 12))) (e4 : h = btw h 0 23) (e5 : i = btw i 0 59) (e6 : ¬ s = btw s 0 59) (w : World) (ht : Tab w) :
    Calls Tryd.prog 17 #[agg6 y m q h i s] w fun e w' => e = .returned (.tuple #[.int .i64 0, .int .i64 40]) ∧ Below w.heap.size w w' := by
  have HT : Hid (∀ o, Tab (w.alloc o)) := fun o => ht.below ((Below.refl _ _).alloc (Nat.le_refl _) _)
  clear ht
  have cb := hide (fun W hW => bounded_any y m q h i s W hW)
  skip
  generalize btw y 1950 9999 = Y at *
  generalize btw m 1 12 = M at *
  generalize btw q 1 (dim Y M) = Q at *
  generalize btw h 0 23 = H at *
  generalize btw i 0 59 = I at *
  generalize btw s 0 59 = S at *
  subst e1 e2 e3 e4 e5
  have K1 := hide (Six.new w 34 y m q h i s rfl)
  unfold agg6 at cb ⊢
  go_enter Tryd.func17, Tryd.ntmps17
  go_wp2
  go_region_held3 (fun W => W.cell? ⟨w.heap.size, 0, none⟩ = some (.int .i64 y) ∧ W.cell? ⟨w.heap.size, 1, none⟩ = some (.int .i64 m) ∧ W.cell? ⟨w.heap.size, 2, none⟩ = some (.int .i64 q) ∧ W.cell? ⟨w.heap.size, 3, none⟩ = some (.int .i64 h) ∧ W.cell? ⟨w.heap.size, 4, none⟩ = some (.int .i64 i) ∧ W.cell? ⟨w.heap.size, 5, none⟩ = some (.int .i64 s)) (go_keep) (first | (go_at_call 25; refine (cb.out _ ?_).mono ?_; exact Tab.heap (HT.out _) rfl; rintro e w5 ⟨rfl, B5⟩; have n6 := K1.out.belowH B5 rfl (by simp); obtain ⟨c0, c1, c2, c3, c4, c5⟩ := n6))
  go_wp2
  go_ret2
  exact ⟨rfl, ((Below.refl _ _).alloc (Nat.le_refl _) _).drew.trans (B5.mono (by simp))⟩

theorem seconds_no (y m q h i s : Int) (no : ¬ Okc y m q h i s) (w : World) (ht : Tab w) :
    Calls Tryd.prog 17 #[agg6 y m q h i s] w fun e w' => e = .returned (.tuple #[.int .i64 0, .int .i64 40]) ∧ Below w.heap.size w w' := by
  by_cases e1 : y = btw y 1950 9999
  · by_cases e2 : m = btw m 1 12
    · by_cases e3 : q = btw q 1 (dim (btw y 1950 9999) (btw m 1 12))
      · by_cases e4 : h = btw h 0 23
        · by_cases e5 : i = btw i 0 59
          · by_cases e6 : s = btw s 0 59
            · rw [← e1, ← e2] at e3
              exact absurd (bounded_no e1 e2 e3 e4 e5 e6) no
            · exact seconds_no6 y m q h i s e1 e2 e3 e4 e5 e6 w ht
          · exact seconds_no5 y m q h i s e1 e2 e3 e4 e5 w ht
        · exact seconds_no4 y m q h i s e1 e2 e3 e4 w ht
      · exact seconds_no3 y m q h i s e1 e2 e3 w ht
    · exact seconds_no2 y m q h i s e1 e2 w ht
  · exact seconds_no1 y m q h i s e1 w ht

end Go.Proofs.YtnpimjfdidbdfabDoor
