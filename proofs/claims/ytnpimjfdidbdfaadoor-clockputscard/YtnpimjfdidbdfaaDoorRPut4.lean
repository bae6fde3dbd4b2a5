/-
  The document's Put.
-/
import Derived.Test.YtnpimjfdidbdfaaDoorRText
import Derived.Test.YtnpimjfdidbdfaaDoorCPut
namespace Go.Proofs.YtnpimjfdidbdfaaDoor
open Go.RowKit

set_option maxRecDepth 100000 in
set_option maxHeartbeats 4000000 in
theorem refPut_gen2 (t : Int) (y m q h i s : Nat) (hy : y ≤ 100000 ∧ m ≤ 100000 ∧ q ≤ 100000 ∧ h ≤ 100000 ∧ i ≤ 100000 ∧ s ≤ 100000) (hY : (y : Int) ≤ 2049) (w : World)
    (C1 : Calls Tryd.prog 10 #[.int .i64 t] w fun e w' => e = .returned (.tuple #[agg6 y m q h i s, .int .i64 0]) ∧ Below w.heap.size w w') :
    Calls Tryd.prog 24 #[.int .i64 t] w fun e w' => e = .returned (.tuple #[.int .i64 23, .string (strOfNums (conV 2 y m q h i s)), .int .i64 0]) ∧ Below w.heap.size w w' := by
  have C1 := hide C1
  unfold agg6 at C1
  have dy := hide (fun W => refDig_any y 2 (by omega) (by omega) W)
  have dm := hide (fun W => refDig_any m 2 (by omega) (by omega) W)
  have dq := hide (fun W => refDig_any q 2 (by omega) (by omega) W)
  have dh := hide (fun W => refDig_any h 2 (by omega) (by omega) W)
  have di := hide (fun W => refDig_any i 2 (by omega) (by omega) W)
  have ds := hide (fun W => refDig_any s 2 (by omega) (by omega) W)
  have e0 : conV 2 y m q h i s = dg 2 y ++ (dg 2 m ++ dg 2 q ++ dg 2 h ++ dg 2 i ++ dg 2 s ++ [90]) := by simp [conV]
  rw [e0]
  clear e0
  have a0 : strOfNums (dg 2 m) ++ strOfNums (dg 2 q) = strOfNums (dg 2 m ++ dg 2 q) := strOf_append _ _
  have a1 : strOfNums (dg 2 m ++ dg 2 q) ++ strOfNums (dg 2 h) = strOfNums (dg 2 m ++ dg 2 q ++ dg 2 h) := strOf_append _ _
  have a2 : strOfNums (dg 2 m ++ dg 2 q ++ dg 2 h) ++ strOfNums (dg 2 i) = strOfNums (dg 2 m ++ dg 2 q ++ dg 2 h ++ dg 2 i) := strOf_append _ _
  have a3 : strOfNums (dg 2 m ++ dg 2 q ++ dg 2 h ++ dg 2 i) ++ strOfNums (dg 2 s) = strOfNums (dg 2 m ++ dg 2 q ++ dg 2 h ++ dg 2 i ++ dg 2 s) := strOf_append _ _
  have a4 : strOfNums (dg 2 m ++ dg 2 q ++ dg 2 h ++ dg 2 i ++ dg 2 s) ++ (⟨#[90]⟩ : ByteArray) = strOfNums (dg 2 m ++ dg 2 q ++ dg 2 h ++ dg 2 i ++ dg 2 s ++ [90]) := strOf_append _ [90]
  have az : strOfNums (dg 2 y) ++ strOfNums (dg 2 m ++ dg 2 q ++ dg 2 h ++ dg 2 i ++ dg 2 s ++ [90]) = strOfNums (dg 2 y ++ (dg 2 m ++ dg 2 q ++ dg 2 h ++ dg 2 i ++ dg 2 s ++ [90])) := strOf_append _ _
  have n0 : ¬ 9223372036854775807 < (strOfNums (dg 2 m)).size + (strOfNums (dg 2 q)).size := by simp [strOfNums_size, dg_len]
  have n1 : ¬ 9223372036854775807 < (strOfNums (dg 2 m ++ dg 2 q)).size + (strOfNums (dg 2 h)).size := by simp [strOfNums_size, dg_len]
  have n2 : ¬ 9223372036854775807 < (strOfNums (dg 2 m ++ dg 2 q ++ dg 2 h)).size + (strOfNums (dg 2 i)).size := by simp [strOfNums_size, dg_len]
  have n3 : ¬ 9223372036854775807 < (strOfNums (dg 2 m ++ dg 2 q ++ dg 2 h ++ dg 2 i)).size + (strOfNums (dg 2 s)).size := by simp [strOfNums_size, dg_len]
  have n4 : ¬ 9223372036854775807 < (strOfNums (dg 2 m ++ dg 2 q ++ dg 2 h ++ dg 2 i ++ dg 2 s)).size + 1 := by simp [strOfNums_size, dg_len]
  have nz : ¬ 9223372036854775807 < (strOfNums (dg 2 y)).size + (strOfNums (dg 2 m ++ dg 2 q ++ dg 2 h ++ dg 2 i ++ dg 2 s ++ [90])).size := by simp [strOfNums_size, dg_len]
  generalize strOfNums (dg 2 y ++ (dg 2 m ++ dg 2 q ++ dg 2 h ++ dg 2 i ++ dg 2 s ++ [90])) = PZ at *
  generalize strOfNums (dg 2 m ++ dg 2 q ++ dg 2 h ++ dg 2 i ++ dg 2 s ++ [90]) = P4 at *
  generalize strOfNums (dg 2 m ++ dg 2 q ++ dg 2 h ++ dg 2 i ++ dg 2 s) = P3 at *
  generalize strOfNums (dg 2 m ++ dg 2 q ++ dg 2 h ++ dg 2 i) = P2 at *
  generalize strOfNums (dg 2 m ++ dg 2 q ++ dg 2 h) = P1 at *
  generalize strOfNums (dg 2 m ++ dg 2 q) = P0 at *
  generalize strOfNums (dg 2 y) = Ty at *
  generalize strOfNums (dg 2 m) = Tm at *
  generalize strOfNums (dg 2 q) = Tq at *
  generalize strOfNums (dg 2 h) = Th at *
  generalize strOfNums (dg 2 i) = Ti at *
  generalize strOfNums (dg 2 s) = Ts at *
  clear hy
  go_enter Tryd.func24, Tryd.ntmps24
  go_wp2_with fail
  refine C1.out.mono ?_
  rintro e w1 ⟨rfl, B1⟩
  have K1 := Six.new w1 27 y m q h i s rfl
  have BW : Hid (Below w.heap.size w (w1.alloc (.cells #[.int .i64 y, .int .i64 m, .int .i64 q, .int .i64 h, .int .i64 i, .int .i64 s] 27))) := B1.alloc B1.size _
  go_wp2
  have hlt : w1.heap.size < (w1.alloc (.cells #[.int .i64 y, .int .i64 m, .int .i64 q, .int .i64 h, .int .i64 i, .int .i64 s] 27)).heap.size := by simp
  generalize w1.alloc (.cells #[.int .i64 y, .int .i64 m, .int .i64 q, .int .i64 h, .int .i64 i, .int .i64 s] 27) = W0 at *
  generalize w1.heap.size = g at *
  have Ka := hide K1
  obtain ⟨c0, c1, c2, c3, c4, c5⟩ := K1
  clear B1
  go_region_held3 (fun W => W.cell? ⟨g, 0, none⟩ = some (.int .i64 y) ∧ W.cell? ⟨g, 1, none⟩ = some (.int .i64 m) ∧ W.cell? ⟨g, 2, none⟩ = some (.int .i64 q) ∧ W.cell? ⟨g, 3, none⟩ = some (.int .i64 h) ∧ W.cell? ⟨g, 4, none⟩ = some (.int .i64 i) ∧ W.cell? ⟨g, 5, none⟩ = some (.int .i64 s)) (first | exact ⟨by assumption, by assumption, by assumption, by assumption, by assumption, by assumption⟩ | go_keep) (first | (go_at_call_of 33 (Value.int .i64 m); refine (dm.out _).mono ?_; rintro e wm ⟨rfl, Bm⟩; have Km := hide (Ka.out.belowH Bm rfl hlt); have lm : g < wm.heap.size := Nat.lt_of_lt_of_le hlt Bm.size; have Dm := hide (BW.out.drew.trans (Bm.mono BW.out.size)); obtain ⟨km0, km1, km2, km3, km4, km5⟩ := Km.out) | (go_at_call_of 33 (Value.int .i64 q); refine (dq.out _).mono ?_; rintro e wq ⟨rfl, Bq⟩; have Kq := hide (Km.out.below Bq lm); have lq : g < wq.heap.size := Nat.lt_of_lt_of_le lm Bq.size; have Dq := hide (Dm.out.trans (Bq.mono Dm.out.size)); obtain ⟨kq0, kq1, kq2, kq3, kq4, kq5⟩ := Kq.out) | (go_at_call_of 33 (Value.int .i64 h); refine (dh.out _).mono ?_; rintro e wh ⟨rfl, Bh⟩; have Kh := hide (Kq.out.below Bh lq); have lh : g < wh.heap.size := Nat.lt_of_lt_of_le lq Bh.size; have Dh := hide (Dq.out.trans (Bh.mono Dq.out.size)); obtain ⟨kh0, kh1, kh2, kh3, kh4, kh5⟩ := Kh.out) | (go_at_call_of 33 (Value.int .i64 i); refine (di.out _).mono ?_; rintro e wi ⟨rfl, Bi⟩; have Ki := hide (Kh.out.below Bi lh); have li : g < wi.heap.size := Nat.lt_of_lt_of_le lh Bi.size; have Di := hide (Dh.out.trans (Bi.mono Dh.out.size)); obtain ⟨ki0, ki1, ki2, ki3, ki4, ki5⟩ := Ki.out) | (go_at_call_of 33 (Value.int .i64 s); refine (ds.out _).mono ?_; rintro e ws ⟨rfl, Bs⟩; have Ks := hide (Ki.out.below Bs li); have ls : g < ws.heap.size := Nat.lt_of_lt_of_le li Bs.size; have Ds := hide (Di.out.trans (Bs.mono Di.out.size)); obtain ⟨ks0, ks1, ks2, ks3, ks4, ks5⟩ := Ks.out))
  go_wp2_with (go_at_call 33; refine (dy.out _).mono ?_; rintro e wy ⟨rfl, By⟩)
  refine bodyPost_ret (v := .tuple #[.int .i64 23, .string PZ, .int .i64 0]) (by simp [results, Tryd.results24, go_sem]) rfl ⟨rfl, Ds.out.trans (By.mono Ds.out.size)⟩

set_option maxRecDepth 100000 in
set_option maxHeartbeats 4000000 in
theorem refPut_gen4 (t : Int) (y m q h i s : Nat) (hy : y ≤ 100000 ∧ m ≤ 100000 ∧ q ≤ 100000 ∧ h ≤ 100000 ∧ i ≤ 100000 ∧ s ≤ 100000) (hY : ¬ (y : Int) ≤ 2049) (w : World)
    (C1 : Calls Tryd.prog 10 #[.int .i64 t] w fun e w' => e = .returned (.tuple #[agg6 y m q h i s, .int .i64 0]) ∧ Below w.heap.size w w') :
    Calls Tryd.prog 24 #[.int .i64 t] w fun e w' => e = .returned (.tuple #[.int .i64 24, .string (strOfNums (conV 4 y m q h i s)), .int .i64 0]) ∧ Below w.heap.size w w' := by
  have C1 := hide C1
  unfold agg6 at C1
  have dy := hide (fun W => refDig_any y 4 (by omega) (by omega) W)
  have dm := hide (fun W => refDig_any m 2 (by omega) (by omega) W)
  have dq := hide (fun W => refDig_any q 2 (by omega) (by omega) W)
  have dh := hide (fun W => refDig_any h 2 (by omega) (by omega) W)
  have di := hide (fun W => refDig_any i 2 (by omega) (by omega) W)
  have ds := hide (fun W => refDig_any s 2 (by omega) (by omega) W)
  have e0 : conV 4 y m q h i s = dg 4 y ++ (dg 2 m ++ dg 2 q ++ dg 2 h ++ dg 2 i ++ dg 2 s ++ [90]) := by simp [conV]
  rw [e0]
  clear e0
  have a0 : strOfNums (dg 2 m) ++ strOfNums (dg 2 q) = strOfNums (dg 2 m ++ dg 2 q) := strOf_append _ _
  have a1 : strOfNums (dg 2 m ++ dg 2 q) ++ strOfNums (dg 2 h) = strOfNums (dg 2 m ++ dg 2 q ++ dg 2 h) := strOf_append _ _
  have a2 : strOfNums (dg 2 m ++ dg 2 q ++ dg 2 h) ++ strOfNums (dg 2 i) = strOfNums (dg 2 m ++ dg 2 q ++ dg 2 h ++ dg 2 i) := strOf_append _ _
  have a3 : strOfNums (dg 2 m ++ dg 2 q ++ dg 2 h ++ dg 2 i) ++ strOfNums (dg 2 s) = strOfNums (dg 2 m ++ dg 2 q ++ dg 2 h ++ dg 2 i ++ dg 2 s) := strOf_append _ _
  have a4 : strOfNums (dg 2 m ++ dg 2 q ++ dg 2 h ++ dg 2 i ++ dg 2 s) ++ (⟨#[90]⟩ : ByteArray) = strOfNums (dg 2 m ++ dg 2 q ++ dg 2 h ++ dg 2 i ++ dg 2 s ++ [90]) := strOf_append _ [90]
  have az : strOfNums (dg 4 y) ++ strOfNums (dg 2 m ++ dg 2 q ++ dg 2 h ++ dg 2 i ++ dg 2 s ++ [90]) = strOfNums (dg 4 y ++ (dg 2 m ++ dg 2 q ++ dg 2 h ++ dg 2 i ++ dg 2 s ++ [90])) := strOf_append _ _
  have n0 : ¬ 9223372036854775807 < (strOfNums (dg 2 m)).size + (strOfNums (dg 2 q)).size := by simp [strOfNums_size, dg_len]
  have n1 : ¬ 9223372036854775807 < (strOfNums (dg 2 m ++ dg 2 q)).size + (strOfNums (dg 2 h)).size := by simp [strOfNums_size, dg_len]
  have n2 : ¬ 9223372036854775807 < (strOfNums (dg 2 m ++ dg 2 q ++ dg 2 h)).size + (strOfNums (dg 2 i)).size := by simp [strOfNums_size, dg_len]
  have n3 : ¬ 9223372036854775807 < (strOfNums (dg 2 m ++ dg 2 q ++ dg 2 h ++ dg 2 i)).size + (strOfNums (dg 2 s)).size := by simp [strOfNums_size, dg_len]
  have n4 : ¬ 9223372036854775807 < (strOfNums (dg 2 m ++ dg 2 q ++ dg 2 h ++ dg 2 i ++ dg 2 s)).size + 1 := by simp [strOfNums_size, dg_len]
  have nz : ¬ 9223372036854775807 < (strOfNums (dg 4 y)).size + (strOfNums (dg 2 m ++ dg 2 q ++ dg 2 h ++ dg 2 i ++ dg 2 s ++ [90])).size := by simp [strOfNums_size, dg_len]
  generalize strOfNums (dg 4 y ++ (dg 2 m ++ dg 2 q ++ dg 2 h ++ dg 2 i ++ dg 2 s ++ [90])) = PZ at *
  generalize strOfNums (dg 2 m ++ dg 2 q ++ dg 2 h ++ dg 2 i ++ dg 2 s ++ [90]) = P4 at *
  generalize strOfNums (dg 2 m ++ dg 2 q ++ dg 2 h ++ dg 2 i ++ dg 2 s) = P3 at *
  generalize strOfNums (dg 2 m ++ dg 2 q ++ dg 2 h ++ dg 2 i) = P2 at *
  generalize strOfNums (dg 2 m ++ dg 2 q ++ dg 2 h) = P1 at *
  generalize strOfNums (dg 2 m ++ dg 2 q) = P0 at *
  generalize strOfNums (dg 4 y) = Ty at *
  generalize strOfNums (dg 2 m) = Tm at *
  generalize strOfNums (dg 2 q) = Tq at *
  generalize strOfNums (dg 2 h) = Th at *
  generalize strOfNums (dg 2 i) = Ti at *
  generalize strOfNums (dg 2 s) = Ts at *
  clear hy
  go_enter Tryd.func24, Tryd.ntmps24
  go_wp2_with fail
  refine C1.out.mono ?_
  rintro e w1 ⟨rfl, B1⟩
  have K1 := Six.new w1 27 y m q h i s rfl
  have BW : Hid (Below w.heap.size w (w1.alloc (.cells #[.int .i64 y, .int .i64 m, .int .i64 q, .int .i64 h, .int .i64 i, .int .i64 s] 27))) := B1.alloc B1.size _
  go_wp2
  have hlt : w1.heap.size < (w1.alloc (.cells #[.int .i64 y, .int .i64 m, .int .i64 q, .int .i64 h, .int .i64 i, .int .i64 s] 27)).heap.size := by simp
  generalize w1.alloc (.cells #[.int .i64 y, .int .i64 m, .int .i64 q, .int .i64 h, .int .i64 i, .int .i64 s] 27) = W0 at *
  generalize w1.heap.size = g at *
  have Ka := hide K1
  obtain ⟨c0, c1, c2, c3, c4, c5⟩ := K1
  clear B1
  go_region_held3 (fun W => W.cell? ⟨g, 0, none⟩ = some (.int .i64 y) ∧ W.cell? ⟨g, 1, none⟩ = some (.int .i64 m) ∧ W.cell? ⟨g, 2, none⟩ = some (.int .i64 q) ∧ W.cell? ⟨g, 3, none⟩ = some (.int .i64 h) ∧ W.cell? ⟨g, 4, none⟩ = some (.int .i64 i) ∧ W.cell? ⟨g, 5, none⟩ = some (.int .i64 s)) (first | exact ⟨by assumption, by assumption, by assumption, by assumption, by assumption, by assumption⟩ | go_keep) (first | (go_at_call_of 33 (Value.int .i64 m); refine (dm.out _).mono ?_; rintro e wm ⟨rfl, Bm⟩; have Km := hide (Ka.out.belowH Bm rfl hlt); have lm : g < wm.heap.size := Nat.lt_of_lt_of_le hlt Bm.size; have Dm := hide (BW.out.drew.trans (Bm.mono BW.out.size)); obtain ⟨km0, km1, km2, km3, km4, km5⟩ := Km.out) | (go_at_call_of 33 (Value.int .i64 q); refine (dq.out _).mono ?_; rintro e wq ⟨rfl, Bq⟩; have Kq := hide (Km.out.below Bq lm); have lq : g < wq.heap.size := Nat.lt_of_lt_of_le lm Bq.size; have Dq := hide (Dm.out.trans (Bq.mono Dm.out.size)); obtain ⟨kq0, kq1, kq2, kq3, kq4, kq5⟩ := Kq.out) | (go_at_call_of 33 (Value.int .i64 h); refine (dh.out _).mono ?_; rintro e wh ⟨rfl, Bh⟩; have Kh := hide (Kq.out.below Bh lq); have lh : g < wh.heap.size := Nat.lt_of_lt_of_le lq Bh.size; have Dh := hide (Dq.out.trans (Bh.mono Dq.out.size)); obtain ⟨kh0, kh1, kh2, kh3, kh4, kh5⟩ := Kh.out) | (go_at_call_of 33 (Value.int .i64 i); refine (di.out _).mono ?_; rintro e wi ⟨rfl, Bi⟩; have Ki := hide (Kh.out.below Bi lh); have li : g < wi.heap.size := Nat.lt_of_lt_of_le lh Bi.size; have Di := hide (Dh.out.trans (Bi.mono Dh.out.size)); obtain ⟨ki0, ki1, ki2, ki3, ki4, ki5⟩ := Ki.out) | (go_at_call_of 33 (Value.int .i64 s); refine (ds.out _).mono ?_; rintro e ws ⟨rfl, Bs⟩; have Ks := hide (Ki.out.below Bs li); have ls : g < ws.heap.size := Nat.lt_of_lt_of_le li Bs.size; have Ds := hide (Di.out.trans (Bs.mono Di.out.size)); obtain ⟨ks0, ks1, ks2, ks3, ks4, ks5⟩ := Ks.out))
  go_wp2_with (go_at_call 33; refine (dy.out _).mono ?_; rintro e wy ⟨rfl, By⟩)
  refine bodyPost_ret (v := .tuple #[.int .i64 24, .string PZ, .int .i64 0]) (by simp [results, Tryd.results24, go_sem]) rfl ⟨rfl, Ds.out.trans (By.mono Ds.out.size)⟩

set_option maxRecDepth 100000 in
theorem refPut_no (t : Int) (h : ¬ isT t) (w : World) :
    Calls Tryd.prog 24 #[.int .i64 t] w fun e w' => e = .returned (.tuple #[.int .i64 0, .string ⟨#[]⟩, .int .i64 40]) ∧ Below w.heap.size w w' := by
  have C1 := hide (toCivil_no t h)
  unfold civ0 at C1
  go_enter Tryd.func24, Tryd.ntmps24
  go_wp2_with fail
  refine (C1.out _).mono ?_
  rintro e w1 ⟨rfl, B1⟩
  go_wp2
  exact bodyPost_ret (v := .tuple #[.int .i64 0, .string ⟨#[]⟩, .int .i64 40]) (by simp [results, Tryd.results24, go_sem]) rfl ⟨rfl, B1.alloc B1.size _⟩

end Go.Proofs.YtnpimjfdidbdfaaDoor
