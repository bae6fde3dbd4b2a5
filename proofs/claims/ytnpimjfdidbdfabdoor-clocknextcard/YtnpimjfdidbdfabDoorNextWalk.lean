/-
  ClockNext answers true at any number.
-/
import Derived.Test.YtnpimjfdidbdfabDoorCNextM
import Derived.Deep.RegionHeld3
namespace Go.Proofs.YtnpimjfdidbdfabDoor
open Go.RowKit

theorem step7 (t : Int) (y m q : Int) (ha : AtDay (dayOf t) y m q) (y' m' q' : Int) (hb : AtDay (dayOf (t + 1)) y' m' q') (k : isT (t + 1)) :
    dayOf (t + 1) % 7 = (dayOf t % 7 + if q = q' then 0 else 1) % 7 := by
  have r0 : 0 ≤ secOf t ∧ secOf t < 86400 := by unfold secOf; omega
  by_cases hR : secOf t < 86399
  · have e1 : dayOf (t + 1) = dayOf t := by unfold secOf at hR; unfold dayOf; omega
    rw [e1] at hb
    obtain ⟨rfl, rfl, rfl⟩ := hb.one ha
    rw [if_pos rfl, e1]
    omega
  · have e1 : dayOf (t + 1) = dayOf t + 1 := by unfold secOf at hR; unfold dayOf; omega
    have hd := (dayOf_in k).2
    rw [e1] at hb hd
    have hdm := dim_in y m ha.m1 ha.m2
    have hne : q ≠ q' := by
      rcases next_day ha hd with ⟨hq, hn⟩ | ⟨hq, hm, hn⟩ | ⟨hq, hm, hn⟩
      · obtain ⟨rfl, rfl, rfl⟩ := hb.one hn; omega
      · obtain ⟨rfl, rfl, rfl⟩ := hb.one hn; omega
      · obtain ⟨rfl, rfl, rfl⟩ := hb.one hn; omega
    rw [if_neg hne, e1]
    omega

theorem leap2000 : leapB 2000 = true := by decide

set_option maxRecDepth 100000 in
theorem next_out (t : Int) (h : t < -631152000 ∨ 253402300799 ≤ t) (w : World) :
    Calls Tryd.prog 5 #[.int .i64 t] w fun e w' => e = .returned (.bool true) ∧ Below w.heap.size w w' := by
  have hl := leap2000
  rcases h with h | h
  · go_enter Tryd.func5, Tryd.ntmps5
    go_wp2_with (go_at_call 7; refine (leap_any _ _).mono ?_; rintro e w' ⟨rfl, rfl⟩)
    go_ret
    exact ⟨rfl, Below.refl _ _⟩
  · go_enter Tryd.func5, Tryd.ntmps5
    go_wp2_with (go_at_call 7; refine (leap_any _ _).mono ?_; rintro e w' ⟨rfl, rfl⟩)
    go_ret
    exact ⟨rfl, Below.refl _ _⟩

theorem i64_in7 (x : Int) (h : 0 ≤ x ∧ x ≤ 100) : IntKind.i64.wrap x = x := by
  unfold IntKind.wrap
  simp [IntKind.signed, IntKind.bits]
  omega

def Six (W : World) (g : Nat) (a b c d e f : Int) : Prop :=
  W.cell? ⟨g, 0, none⟩ = some (.int .i64 a) ∧ W.cell? ⟨g, 1, none⟩ = some (.int .i64 b) ∧ W.cell? ⟨g, 2, none⟩ = some (.int .i64 c) ∧ W.cell? ⟨g, 3, none⟩ = some (.int .i64 d) ∧ W.cell? ⟨g, 4, none⟩ = some (.int .i64 e) ∧ W.cell? ⟨g, 5, none⟩ = some (.int .i64 f)

theorem Six.new (w : World) (T : TypeId) (a b c d e f : Int) {g : Nat} (hg : g = w.heap.size) : Six (w.alloc (.cells #[.int .i64 a, .int .i64 b, .int .i64 c, .int .i64 d, .int .i64 e, .int .i64 f] T)) g a b c d e f := by
  subst hg
  unfold Six
  simp [World.cell?_alloc_new]

theorem Six.below {W W' : World} {B g : Nat} {a b c d e f : Int} (h : Six W g a b c d e f) (hb : Below B W W') (hg : g < B) : Six W' g a b c d e f := by
  obtain ⟨h0, h1, h2, h3, h4, h5⟩ := h
  exact ⟨(hb.cell (p := ⟨g, 0, none⟩) hg).trans h0, (hb.cell (p := ⟨g, 1, none⟩) hg).trans h1, (hb.cell (p := ⟨g, 2, none⟩) hg).trans h2, (hb.cell (p := ⟨g, 3, none⟩) hg).trans h3, (hb.cell (p := ⟨g, 4, none⟩) hg).trans h4, (hb.cell (p := ⟨g, 5, none⟩) hg).trans h5⟩

theorem Six.belowH {W W1 W' : World} {g : Nat} {a b c d e f : Int} (h : Six W g a b c d e f) (hb : Below W1.heap.size W1 W') (he : W1.heap = W.heap) (hg : g < W.heap.size) : Six W' g a b c d e f := by
  have h1 : Six W1 g a b c d e f := by
    unfold Six World.cell? at h ⊢
    rw [he]
    exact h
  exact h1.below hb (by rw [he]; exact hg)

set_option maxRecDepth 100000 in
set_option maxHeartbeats 4000000 in
theorem next_walk (t : Int) (h1 : -631152000 ≤ t) (h2 : t < 253402300799) (w : World) (ht : Tab w) :
    Calls Tryd.prog 5 #[.int .i64 t] w fun e w' => e = .returned (.bool true) ∧ Below w.heap.size w w' := by
  have i1 : isT t := by unfold isT; omega
  have i2 : isT (t + 1) := by unfold isT; omega
  obtain ⟨y, m, q, ha⟩ := at_ex i1
  obtain ⟨y', m', q', hb⟩ := at_ex i2
  have H7 := hide (step7 t y m q ha y' m' q' hb i2)
  have C1 := hide (fun W hW => civil_at t i1 y m q ha W hW)
  have C2 := hide (fun W hW => civil_at (t + 1) i2 y' m' q' hb W hW)
  have D1 := hide (fun W => weekday_at t i1 W)
  have D2 := hide (fun W => weekday_at (t + 1) i2 W)
  have N1 := hide (fun W hW => next_at t i2 y m q ha y' m' q' hb W hW)
  have hl := hide leap2000
  have d1 : 0 ≤ dayOf t % 7 ∧ dayOf t % 7 < 7 := by omega
  have HT := hide ht
  unfold civA at C1 C2 N1
  clear i1 i2 ha hb ht
  generalize dayOf t % 7 = A at *
  generalize dayOf (t + 1) % 7 = B at *
  generalize secOf t / 3600 = x3 at *
  generalize secOf t / 60 % 60 = x4 at *
  generalize secOf t % 60 = x5 at *
  generalize secOf (t + 1) / 3600 = z3 at *
  generalize secOf (t + 1) / 60 % 60 = z4 at *
  generalize secOf (t + 1) % 60 = z5 at *
  go_enter Tryd.func5, Tryd.ntmps5
  go_wp2_with fail
  refine (C1.out _ HT.out).mono ?_
  rintro e w1 ⟨rfl, B1⟩
  go_wp2_with fail
  refine (C2.out _ ((HT.out.below B1).below ((Below.refl _ _).alloc (Nat.le_refl _) _))).mono ?_
  rintro e w2 ⟨rfl, B2⟩
  go_wp2_with fail
  refine (D1.out _).mono ?_
  rintro e w3 ⟨rfl, rfl⟩
  go_wp2_with fail
  refine (D2.out _).mono ?_
  rintro e w4 ⟨rfl, rfl⟩
  have k1 : Six (w2.alloc (.cells #[.int .i64 y', .int .i64 m', .int .i64 q', .int .i64 z3, .int .i64 z4, .int .i64 z5] 34)) w1.heap.size y m q x3 x4 x5 :=
    ((Six.new w1 _ y m q x3 x4 x5 rfl).below B2 (by simp)).below (Below.refl _ _ |>.alloc (Nat.le_refl _) _) (by have := B2.size; simp at this; omega)
  have k2 : Six (w2.alloc (.cells #[.int .i64 y', .int .i64 m', .int .i64 q', .int .i64 z3, .int .i64 z4, .int .i64 z5] 34)) w2.heap.size y' m' q' z3 z4 z5 := Six.new w2 _ y' m' q' z3 z4 z5 rfl
  have hB : Below w.heap.size w (w2.alloc (.cells #[.int .i64 y', .int .i64 m', .int .i64 q', .int .i64 z3, .int .i64 z4, .int .i64 z5] 34)) :=
    ((B1.alloc B1.size _).trans (B2.mono (by have := B1.size; simp; omega))).alloc (by have := B1.size; have := B2.size; simp at this; omega) _
  have HTB := hide (HT.out.below hB)
  have hlt : w2.heap.size < (w2.alloc (.cells #[.int .i64 y', .int .i64 m', .int .i64 q', .int .i64 z3, .int .i64 z4, .int .i64 z5] 34)).heap.size := by simp
  have hlt1 : w1.heap.size < w2.heap.size := by have := B2.size; simp at this; omega
  have HB := hide hB
  generalize w2.alloc (.cells #[.int .i64 y', .int .i64 m', .int .i64 q', .int .i64 z3, .int .i64 z4, .int .i64 z5] 34) = W0 at *
  have K1 := hide k1
  have K2 := hide k2
  obtain ⟨a0, a1, a2, a3, a4, a5⟩ := k1
  obtain ⟨b0, b1, b2, b3, b4, b5⟩ := k2
  clear hB B1 B2 HT
  generalize w1.heap.size = g1 at *
  generalize w2.heap.size = g2 at *
  by_cases hq : q = q'
  · have H8 : (B == A % 7) = true := by have := H7.out; rw [if_pos hq] at this; simpa using this
    have gw : IntKind.i64.wrap A = A := i64_in7 _ (by omega)
    have gm : A.tmod 7 = A % 7 := Int.tmod_eq_emod_of_nonneg (by omega)
    have hq1 : (q != q') = false := by simp [hq]
    clear hq H7
    go_wp2
    go_region_held3 (fun W => W.cell? ⟨g1, 0, none⟩ = some (.int .i64 y) ∧ W.cell? ⟨g1, 1, none⟩ = some (.int .i64 m) ∧ W.cell? ⟨g1, 2, none⟩ = some (.int .i64 q) ∧ W.cell? ⟨g1, 3, none⟩ = some (.int .i64 x3) ∧ W.cell? ⟨g1, 4, none⟩ = some (.int .i64 x4) ∧ W.cell? ⟨g1, 5, none⟩ = some (.int .i64 x5) ∧ W.cell? ⟨g2, 0, none⟩ = some (.int .i64 y') ∧ W.cell? ⟨g2, 1, none⟩ = some (.int .i64 m') ∧ W.cell? ⟨g2, 2, none⟩ = some (.int .i64 q') ∧ W.cell? ⟨g2, 3, none⟩ = some (.int .i64 z3) ∧ W.cell? ⟨g2, 4, none⟩ = some (.int .i64 z4) ∧ W.cell? ⟨g2, 5, none⟩ = some (.int .i64 z5)) (go_keep) (first | (go_at_call 12; refine (N1.out _ ?_).mono ?_; exact Tab.heap HTB.out rfl; rintro e w5 ⟨rfl, B5⟩; obtain ⟨c0, c1, c2, c3, c4, c5⟩ := K1.out.belowH B5 rfl (by omega); obtain ⟨e0, e1, e2, e3, e4, e5⟩ := K2.out.belowH B5 rfl hlt) | (go_at_call 7; refine (leap_any _ _).mono ?_; rintro e w6 ⟨rfl, hw⟩; have hw2 := hw.symm; subst hw2; rw [hl.out]))
    go_wp2
    go_ret
    exact ⟨rfl, HB.out.drew.trans (B5.mono HB.out.size)⟩
  · have H8 : (B == (A + 1) % 7) = true := by have := H7.out; rw [if_neg hq] at this; simpa using this
    have gw : IntKind.i64.wrap (A + 1) = A + 1 := i64_in7 _ (by omega)
    have gm : (A + 1).tmod 7 = (A + 1) % 7 := Int.tmod_eq_emod_of_nonneg (by omega)
    have hq1 : (q != q') = true := by simp [hq]
    clear hq H7
    go_wp2
    go_region_held3 (fun W => W.cell? ⟨g1, 0, none⟩ = some (.int .i64 y) ∧ W.cell? ⟨g1, 1, none⟩ = some (.int .i64 m) ∧ W.cell? ⟨g1, 2, none⟩ = some (.int .i64 q) ∧ W.cell? ⟨g1, 3, none⟩ = some (.int .i64 x3) ∧ W.cell? ⟨g1, 4, none⟩ = some (.int .i64 x4) ∧ W.cell? ⟨g1, 5, none⟩ = some (.int .i64 x5) ∧ W.cell? ⟨g2, 0, none⟩ = some (.int .i64 y') ∧ W.cell? ⟨g2, 1, none⟩ = some (.int .i64 m') ∧ W.cell? ⟨g2, 2, none⟩ = some (.int .i64 q') ∧ W.cell? ⟨g2, 3, none⟩ = some (.int .i64 z3) ∧ W.cell? ⟨g2, 4, none⟩ = some (.int .i64 z4) ∧ W.cell? ⟨g2, 5, none⟩ = some (.int .i64 z5)) (go_keep) (first | (go_at_call 12; refine (N1.out _ ?_).mono ?_; exact Tab.heap HTB.out rfl; rintro e w5 ⟨rfl, B5⟩; obtain ⟨c0, c1, c2, c3, c4, c5⟩ := K1.out.belowH B5 rfl (by omega); obtain ⟨e0, e1, e2, e3, e4, e5⟩ := K2.out.belowH B5 rfl hlt) | (go_at_call 7; refine (leap_any _ _).mono ?_; rintro e w6 ⟨rfl, hw⟩; have hw2 := hw.symm; subst hw2; rw [hl.out]))
    go_wp2
    go_ret
    exact ⟨rfl, HB.out.drew.trans (B5.mono HB.out.size)⟩

theorem next_any (t : Int) (w : World) (ht : Tab w) :
    Calls Tryd.prog 5 #[.int .i64 t] w fun e w' => e = .returned (.bool true) ∧ Below w.heap.size w w' := by
  by_cases h : -631152000 ≤ t ∧ t < 253402300799
  · exact next_walk t h.1 h.2 w ht
  · exact next_out t (by omega) w

end Go.Proofs.YtnpimjfdidbdfabDoor
