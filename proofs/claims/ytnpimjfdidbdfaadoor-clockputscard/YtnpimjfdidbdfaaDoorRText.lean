/-
  The document's Text; its Weekday; the statements' own 'same'.
-/
import Derived.Test.YtnpimjfdidbdfaaDoorRDig4
import Derived.Test.YtnpimjfdidbdfaaDoorRCivil
import Derived.Test.YtnpimjfdidbdfaaDoorCText
namespace Go.Proofs.YtnpimjfdidbdfaaDoor
open Go.RowKit

set_option maxRecDepth 100000 in
set_option maxHeartbeats 4000000 in
theorem refText_gen (t : Int) (y m q h i s : Nat) (hy : y ≤ 100000 ∧ m ≤ 100000 ∧ q ≤ 100000 ∧ h ≤ 100000 ∧ i ≤ 100000 ∧ s ≤ 100000) (w : World)
    (C1 : Calls Tryd.prog 10 #[.int .i64 t] w fun e w' => e = .returned (.tuple #[agg6 y m q h i s, .int .i64 0]) ∧ Below w.heap.size w w') :
    Calls Tryd.prog 12 #[.int .i64 t] w fun e w' => e = .returned (.tuple #[.string (strOfNums (txtV y m q h i s)), .int .i64 0]) ∧ Below w.heap.size w w' := by
  have C1 := hide C1
  unfold agg6 at C1
  have dy := hide (fun W => refDig_any y 4 (by omega) (by omega) W)
  have dm := hide (fun W => refDig_any m 2 (by omega) (by omega) W)
  have dq := hide (fun W => refDig_any q 2 (by omega) (by omega) W)
  have dh := hide (fun W => refDig_any h 2 (by omega) (by omega) W)
  have di := hide (fun W => refDig_any i 2 (by omega) (by omega) W)
  have ds := hide (fun W => refDig_any s 2 (by omega) (by omega) W)
  have e0 : txtV y m q h i s = dg 4 y ++ [45] ++ dg 2 m ++ [45] ++ dg 2 q ++ [32] ++ dg 2 h ++ [58] ++ dg 2 i ++ [58] ++ dg 2 s := by simp [txtV]
  rw [e0]
  clear e0
  have a0 : strOfNums (dg 4 y) ++ (⟨#[45]⟩ : ByteArray) = strOfNums (dg 4 y ++ [45]) := strOf_append _ [45]
  have a1 : strOfNums (dg 4 y ++ [45]) ++ strOfNums (dg 2 m) = strOfNums (dg 4 y ++ [45] ++ dg 2 m) := strOf_append _ _
  have a2 : strOfNums (dg 4 y ++ [45] ++ dg 2 m) ++ (⟨#[45]⟩ : ByteArray) = strOfNums (dg 4 y ++ [45] ++ dg 2 m ++ [45]) := strOf_append _ [45]
  have a3 : strOfNums (dg 4 y ++ [45] ++ dg 2 m ++ [45]) ++ strOfNums (dg 2 q) = strOfNums (dg 4 y ++ [45] ++ dg 2 m ++ [45] ++ dg 2 q) := strOf_append _ _
  have a4 : strOfNums (dg 4 y ++ [45] ++ dg 2 m ++ [45] ++ dg 2 q) ++ (⟨#[32]⟩ : ByteArray) = strOfNums (dg 4 y ++ [45] ++ dg 2 m ++ [45] ++ dg 2 q ++ [32]) := strOf_append _ [32]
  have a5 : strOfNums (dg 4 y ++ [45] ++ dg 2 m ++ [45] ++ dg 2 q ++ [32]) ++ strOfNums (dg 2 h) = strOfNums (dg 4 y ++ [45] ++ dg 2 m ++ [45] ++ dg 2 q ++ [32] ++ dg 2 h) := strOf_append _ _
  have a6 : strOfNums (dg 4 y ++ [45] ++ dg 2 m ++ [45] ++ dg 2 q ++ [32] ++ dg 2 h) ++ (⟨#[58]⟩ : ByteArray) = strOfNums (dg 4 y ++ [45] ++ dg 2 m ++ [45] ++ dg 2 q ++ [32] ++ dg 2 h ++ [58]) := strOf_append _ [58]
  have a7 : strOfNums (dg 4 y ++ [45] ++ dg 2 m ++ [45] ++ dg 2 q ++ [32] ++ dg 2 h ++ [58]) ++ strOfNums (dg 2 i) = strOfNums (dg 4 y ++ [45] ++ dg 2 m ++ [45] ++ dg 2 q ++ [32] ++ dg 2 h ++ [58] ++ dg 2 i) := strOf_append _ _
  have a8 : strOfNums (dg 4 y ++ [45] ++ dg 2 m ++ [45] ++ dg 2 q ++ [32] ++ dg 2 h ++ [58] ++ dg 2 i) ++ (⟨#[58]⟩ : ByteArray) = strOfNums (dg 4 y ++ [45] ++ dg 2 m ++ [45] ++ dg 2 q ++ [32] ++ dg 2 h ++ [58] ++ dg 2 i ++ [58]) := strOf_append _ [58]
  have a9 : strOfNums (dg 4 y ++ [45] ++ dg 2 m ++ [45] ++ dg 2 q ++ [32] ++ dg 2 h ++ [58] ++ dg 2 i ++ [58]) ++ strOfNums (dg 2 s) = strOfNums (dg 4 y ++ [45] ++ dg 2 m ++ [45] ++ dg 2 q ++ [32] ++ dg 2 h ++ [58] ++ dg 2 i ++ [58] ++ dg 2 s) := strOf_append _ _
  have n0 : ¬ 9223372036854775807 < (strOfNums (dg 4 y)).size + 1 := by simp [strOfNums_size, dg_len]
  have n1 : ¬ 9223372036854775807 < (strOfNums (dg 4 y ++ [45])).size + (strOfNums (dg 2 m)).size := by simp [strOfNums_size, dg_len]
  have n2 : ¬ 9223372036854775807 < (strOfNums (dg 4 y ++ [45] ++ dg 2 m)).size + 1 := by simp [strOfNums_size, dg_len]
  have n3 : ¬ 9223372036854775807 < (strOfNums (dg 4 y ++ [45] ++ dg 2 m ++ [45])).size + (strOfNums (dg 2 q)).size := by simp [strOfNums_size, dg_len]
  have n4 : ¬ 9223372036854775807 < (strOfNums (dg 4 y ++ [45] ++ dg 2 m ++ [45] ++ dg 2 q)).size + 1 := by simp [strOfNums_size, dg_len]
  have n5 : ¬ 9223372036854775807 < (strOfNums (dg 4 y ++ [45] ++ dg 2 m ++ [45] ++ dg 2 q ++ [32])).size + (strOfNums (dg 2 h)).size := by simp [strOfNums_size, dg_len]
  have n6 : ¬ 9223372036854775807 < (strOfNums (dg 4 y ++ [45] ++ dg 2 m ++ [45] ++ dg 2 q ++ [32] ++ dg 2 h)).size + 1 := by simp [strOfNums_size, dg_len]
  have n7 : ¬ 9223372036854775807 < (strOfNums (dg 4 y ++ [45] ++ dg 2 m ++ [45] ++ dg 2 q ++ [32] ++ dg 2 h ++ [58])).size + (strOfNums (dg 2 i)).size := by simp [strOfNums_size, dg_len]
  have n8 : ¬ 9223372036854775807 < (strOfNums (dg 4 y ++ [45] ++ dg 2 m ++ [45] ++ dg 2 q ++ [32] ++ dg 2 h ++ [58] ++ dg 2 i)).size + 1 := by simp [strOfNums_size, dg_len]
  have n9 : ¬ 9223372036854775807 < (strOfNums (dg 4 y ++ [45] ++ dg 2 m ++ [45] ++ dg 2 q ++ [32] ++ dg 2 h ++ [58] ++ dg 2 i ++ [58])).size + (strOfNums (dg 2 s)).size := by simp [strOfNums_size, dg_len]
  generalize strOfNums (dg 4 y ++ [45] ++ dg 2 m ++ [45] ++ dg 2 q ++ [32] ++ dg 2 h ++ [58] ++ dg 2 i ++ [58] ++ dg 2 s) = P9 at *
  generalize strOfNums (dg 4 y ++ [45] ++ dg 2 m ++ [45] ++ dg 2 q ++ [32] ++ dg 2 h ++ [58] ++ dg 2 i ++ [58]) = P8 at *
  generalize strOfNums (dg 4 y ++ [45] ++ dg 2 m ++ [45] ++ dg 2 q ++ [32] ++ dg 2 h ++ [58] ++ dg 2 i) = P7 at *
  generalize strOfNums (dg 4 y ++ [45] ++ dg 2 m ++ [45] ++ dg 2 q ++ [32] ++ dg 2 h ++ [58]) = P6 at *
  generalize strOfNums (dg 4 y ++ [45] ++ dg 2 m ++ [45] ++ dg 2 q ++ [32] ++ dg 2 h) = P5 at *
  generalize strOfNums (dg 4 y ++ [45] ++ dg 2 m ++ [45] ++ dg 2 q ++ [32]) = P4 at *
  generalize strOfNums (dg 4 y ++ [45] ++ dg 2 m ++ [45] ++ dg 2 q) = P3 at *
  generalize strOfNums (dg 4 y ++ [45] ++ dg 2 m ++ [45]) = P2 at *
  generalize strOfNums (dg 4 y ++ [45] ++ dg 2 m) = P1 at *
  generalize strOfNums (dg 4 y ++ [45]) = P0 at *
  generalize strOfNums (dg 4 y) = Ty at *
  generalize strOfNums (dg 2 m) = Tm at *
  generalize strOfNums (dg 2 q) = Tq at *
  generalize strOfNums (dg 2 h) = Th at *
  generalize strOfNums (dg 2 i) = Ti at *
  generalize strOfNums (dg 2 s) = Ts at *
  clear hy
  go_enter Tryd.func12, Tryd.ntmps12
  go_wp2_with fail
  refine C1.out.mono ?_
  rintro e w1 ⟨rfl, B1⟩
  have K1 := Six.new w1 27 y m q h i s rfl
  have BW : Hid (Below w.heap.size w (w1.alloc (.cells #[.int .i64 y, .int .i64 m, .int .i64 q, .int .i64 h, .int .i64 i, .int .i64 s] 27))) := B1.alloc B1.size _
  go_wp2
  have hlt : w1.heap.size < (w1.alloc (.cells #[.int .i64 y, .int .i64 m, .int .i64 q, .int .i64 h, .int .i64 i, .int .i64 s] 27)).heap.size := by simp
  generalize w1.alloc (.cells #[.int .i64 y, .int .i64 m, .int .i64 q, .int .i64 h, .int .i64 i, .int .i64 s] 27) = W0 at *
  generalize w1.heap.size = g at *
  have Ka := hide K1
  obtain ⟨c0, c1, c2, c3, c4, c5⟩ := K1
  clear B1
  go_region_held3 (fun W => W.cell? ⟨g, 0, none⟩ = some (.int .i64 y) ∧ W.cell? ⟨g, 1, none⟩ = some (.int .i64 m) ∧ W.cell? ⟨g, 2, none⟩ = some (.int .i64 q) ∧ W.cell? ⟨g, 3, none⟩ = some (.int .i64 h) ∧ W.cell? ⟨g, 4, none⟩ = some (.int .i64 i) ∧ W.cell? ⟨g, 5, none⟩ = some (.int .i64 s)) (first | exact ⟨by assumption, by assumption, by assumption, by assumption, by assumption, by assumption⟩ | go_keep) (first | (go_at_call_of 33 (Value.int .i64 y); refine (dy.out _).mono ?_; rintro e wy ⟨rfl, By⟩; have Ky := hide (Ka.out.belowH By rfl hlt); have ly : g < wy.heap.size := Nat.lt_of_lt_of_le hlt By.size; have Dy := hide (BW.out.drew.trans (By.mono BW.out.size)); obtain ⟨ky0, ky1, ky2, ky3, ky4, ky5⟩ := Ky.out) | (go_at_call_of 33 (Value.int .i64 m); refine (dm.out _).mono ?_; rintro e wm ⟨rfl, Bm⟩; have Km := hide (Ky.out.below Bm ly); have lm : g < wm.heap.size := Nat.lt_of_lt_of_le ly Bm.size; have Dm := hide (Dy.out.trans (Bm.mono Dy.out.size)); obtain ⟨km0, km1, km2, km3, km4, km5⟩ := Km.out) | (go_at_call_of 33 (Value.int .i64 q); refine (dq.out _).mono ?_; rintro e wq ⟨rfl, Bq⟩; have Kq := hide (Km.out.below Bq lm); have lq : g < wq.heap.size := Nat.lt_of_lt_of_le lm Bq.size; have Dq := hide (Dm.out.trans (Bq.mono Dm.out.size)); obtain ⟨kq0, kq1, kq2, kq3, kq4, kq5⟩ := Kq.out) | (go_at_call_of 33 (Value.int .i64 h); refine (dh.out _).mono ?_; rintro e wh ⟨rfl, Bh⟩; have Kh := hide (Kq.out.below Bh lq); have lh : g < wh.heap.size := Nat.lt_of_lt_of_le lq Bh.size; have Dh := hide (Dq.out.trans (Bh.mono Dq.out.size)); obtain ⟨kh0, kh1, kh2, kh3, kh4, kh5⟩ := Kh.out) | (go_at_call_of 33 (Value.int .i64 i); refine (di.out _).mono ?_; rintro e wi ⟨rfl, Bi⟩; have Ki := hide (Kh.out.below Bi lh); have li : g < wi.heap.size := Nat.lt_of_lt_of_le lh Bi.size; have Di := hide (Dh.out.trans (Bi.mono Dh.out.size)); obtain ⟨ki0, ki1, ki2, ki3, ki4, ki5⟩ := Ki.out) | (go_at_call_of 33 (Value.int .i64 s); refine (ds.out _).mono ?_; rintro e ws ⟨rfl, Bs⟩; have Ks := hide (Ki.out.below Bs li); have ls : g < ws.heap.size := Nat.lt_of_lt_of_le li Bs.size; have Ds := hide (Di.out.trans (Bs.mono Di.out.size)); obtain ⟨ks0, ks1, ks2, ks3, ks4, ks5⟩ := Ks.out))
  go_wp2
  go_ret2
  exact ⟨rfl, Ds.out⟩

set_option maxRecDepth 100000 in
theorem refText_no (t : Int) (h : ¬ isT t) (w : World) :
    Calls Tryd.prog 12 #[.int .i64 t] w fun e w' => e = .returned (.tuple #[.string ⟨#[]⟩, .int .i64 40]) ∧ Below w.heap.size w w' := by
  have C1 := hide (toCivil_no t h)
  unfold civ0 at C1
  go_enter Tryd.func12, Tryd.ntmps12
  go_wp2_with fail
  refine (C1.out _).mono ?_
  rintro e w1 ⟨rfl, B1⟩
  go_wp2
  go_ret2
  exact ⟨rfl, B1.alloc B1.size _⟩

set_option maxRecDepth 100000 in
theorem refWeekday_no (t : Int) (h : ¬ isT t) (w : World) :
    Calls Tryd.prog 14 #[.int .i64 t] w fun e w' => e = .returned (.tuple #[.int .i64 0, .int .i64 40]) ∧ w' = w := by
  have h' : t < -631152000 ∨ 253402300799 < t := by unfold isT at h; omega
  go_enter Tryd.func14, Tryd.ntmps14
  go_wp2_with (go_at_call 31; refine (refIsTime_no _ h' _).mono ?_; rintro e w' ⟨rfl, rfl⟩)
  go_ret2
  exact ⟨rfl, rfl⟩

theorem week7 (D : Int) (hd : 0 ≤ D ∧ D < 2940202) : (wrap64 ((4 + (D - 7305)).tmod 7 + 7)).tmod 7 = D % 7 := by
  have e : ((4 + (D - 7305)).tmod 7 = (D - 7301) % 7 ∧ 7301 ≤ D) ∨ ((4 + (D - 7305)).tmod 7 = -((7301 - D) % 7) ∧ D < 7301) := by
    by_cases hp : 7301 ≤ D
    · exact .inl ⟨by rw [Int.tmod_eq_emod_of_nonneg (by omega)]; omega, hp⟩
    · refine .inr ⟨?_, by omega⟩
      rw [show 4 + (D - 7305) = -(7301 - D) by omega, Int.neg_tmod, Int.tmod_eq_emod_of_nonneg (by omega)]
  have hw : ∀ x : Int, 0 ≤ x → x ≤ 100 → wrap64 x = x := by
    intro x h1 h2
    unfold wrap64
    omega
  rcases e with ⟨e, h⟩ | ⟨e, h⟩ <;> rw [e, hw _ (by omega) (by omega), Int.tmod_eq_emod_of_nonneg (by omega)] <;> omega

set_option maxRecDepth 100000 in
theorem refWeekday_at (t : Int) (h : isT t) (w : World) :
    Calls Tryd.prog 14 #[.int .i64 t] w fun e w' => e = .returned (.tuple #[.int .i64 (dayOf t % 7), .int .i64 0]) ∧ w' = w := by
  have hd := dayOf_in h
  have F1 : Hid ((t + 631152000) / 86400 = dayOf t) := rfl
  unfold isT at h
  generalize dayOf t = D at *
  go_enter Tryd.func14, Tryd.ntmps14
  go_wp2_with (go_at_call 31; refine (refIsTime_yes _ h.1 h.2 _).mono ?_; rintro e w' ⟨rfl, rfl⟩)
  go_ret2
  rw [F1.out]
  exact ⟨ret_int2 (week7 D hd) rfl, rfl⟩

end Go.Proofs.YtnpimjfdidbdfaaDoor
