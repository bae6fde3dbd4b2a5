/-
  curve.spread, where a coordinate is not below p.
-/
import Derived.Test.YtcijjmncilciiaaDoorZCvSpr
namespace Go.Proofs.YtcijjmncilciiaaDoor
open Go.RowKit Go.IntWalk

attribute [local go_sem ↓] ld_num st_num ld_pln st_pln ld_ops st_ops ld_pnt st_pnt ld_dig st_dig ld_tri st_tri eq_num ne_num eq_pnt ne_pnt bd_pnt

set_option maxRecDepth 100000 in
set_option maxHeartbeats 2000000 in
theorem spread_ny (X Y : List Int) (hX : X.length = 32) (hY : Y.length = 32) (dX : Dg 256 X) (dY : Dg 256 Y) (b0 b1 b2 b3 : Int) (hb : Nw b0 b1 b2 b3 BM) (w : World) (hC : Cv w) (hPX : PP ≤ dn X) (hPY : dn Y < PP) :
    Calls Tryd.prog 29 #[.agg (pL X Y false).toArray, .agg (opL b0 b1 b2 b3).toArray] w (Sp X Y w) := by
  have HPX := hide hPX
  have HPY := hide hPY
  have HON : Hid (onP X Y false = false) := by unfold Hid; simp [onP]; omega
  clear hPX hPY
  obtain ⟨L, hL⟩ : ∃ L, pL X Y false = L := ⟨_, rfl⟩
  have K0 := hide (W3_a w (pL X Y false) (opL b0 b1 b2 b3) T0 25 67 72)
  have HLX : Hid (∀ W, Blk 25 W w.heap.size L → (ldA 23 (.pointer (some ⟨w.heap.size, 0, none⟩))).run Tryd.prog W = .ok (.agg (bV X).toArray) W) := by
    intro W h
    rw [← hL] at h
    exact (pnt_ld hX hY h).2.1
  have HLY : Hid (∀ W, Blk 25 W w.heap.size L → (ldA 23 (.pointer (some ⟨w.heap.size, 32, none⟩))).run Tryd.prog W = .ok (.agg (bV Y).toArray) W) := by
    intro W h
    rw [← hL] at h
    exact (pnt_ld hX hY h).2.2.1
  have c0 : L[64]? = some (.bool false) := by rw [← hL]; simp [pL, hX, hY]
  have hone : ∀ v ∈ L, v.oneCell' = true := by rw [← hL]; exact pL_one X Y false
  rw [hL] at K0 ⊢
  have HFX : Hid (∀ W, Calls Tryd.prog 63 #[.agg (bV X).toArray] W fun e w' => ∃ r0 r1 r2 r3, e = .returned (.agg #[.int .u64 r0, .int .u64 r1, .int .u64 r2, .int .u64 r3]) ∧ is64 r0 ∧ is64 r1 ∧ is64 r2 ∧ is64 r3 ∧ V4 r0 r1 r2 r3 = dn X ∧ Below W.heap.size W w') := fun W => fromDigest_any X dX hX W
  have HFY : Hid (∀ W, Calls Tryd.prog 63 #[.agg (bV Y).toArray] W fun e w' => ∃ r0 r1 r2 r3, e = .returned (.agg #[.int .u64 r0, .int .u64 r1, .int .u64 r2, .int .u64 r3]) ∧ is64 r0 ∧ is64 r1 ∧ is64 r2 ∧ is64 r3 ∧ V4 r0 r1 r2 r3 = dn Y ∧ Below W.heap.size W w') := fun W => fromDigest_any Y dY hY W
  have HC := hide hC
  have HBb := hide hb
  clear hL hX hY hC dX dY hb
  have O0 := hide (W3_b w L (opL b0 b1 b2 b3) T0 25 67 72)
  have Z0 := hide (W3_c w L (opL b0 b1 b2 b3) T0 25 67 72)
  have U0 := hide (W3_w w L (opL b0 b1 b2 b3) T0 25 67 72)
  have C0 := hide (HC.out.below U0.out)
  have l0 := HLX.out _ K0.out
  simp only [W3, opL, T0, T12] at l0
  go_enter Tryd.func29, Tryd.ntmps29
  simp only [opL]
  go_wp2_with fail
  refine (HFX.out _).mono ?_
  rintro e w1 ⟨r0, r1, r2, r3, rfl, ri0, ri1, ri2, ri3, rv, LB⟩
  have K1 := hide (K0.out.below LB)
  have O1 := hide (O0.out.below LB)
  have Z1 := hide (Z0.out.below LB)
  have U1 := hide (below_then U0.out LB)
  have C1 := hide (C0.out.below LB)
  go_wp2_with fail
  refine (lifted_no r0 r1 r2 r3 (dn X) ri0 ri1 ri2 ri3 rv HPX.out _ C1.out).mono ?_
  rintro e w2 ⟨x0, x1, x2, x3, rfl, NX, LB⟩
  have NX := hide NX
  have K2 := hide (K1.out.below LB)
  have O2 := hide (O1.out.below LB)
  have Z2 := hide (Z1.out.below LB)
  have U2 := hide (below_then U1.out LB)
  have C2 := hide (C1.out.below LB)
  clear ri0 ri1 ri2 ri3 rv
  have hst := st4n w2 x0 x1 x2 x3
  have K3 := hide (K2.out.alloc (.cells #[.int .u64 x0, .int .u64 x1, .int .u64 x2, .int .u64 x3] 70))
  have O3 := hide (O2.out.alloc (.cells #[.int .u64 x0, .int .u64 x1, .int .u64 x2, .int .u64 x3] 70))
  have Z3 := hide (Z2.out.alloc (.cells #[.int .u64 x0, .int .u64 x1, .int .u64 x2, .int .u64 x3] 70))
  have U3 := hide (U2.out.alloc U2.out.size (.cells #[.int .u64 x0, .int .u64 x1, .int .u64 x2, .int .u64 x3] 70))
  have C3 := hide (C2.out.alloc (.cells #[.int .u64 x0, .int .u64 x1, .int .u64 x2, .int .u64 x3] 70))
  have X3 := hide (Blk.new (T := 70) w2 (L4 x0 x1 x2 x3) #[.int .u64 x0, .int .u64 x1, .int .u64 x2, .int .u64 x3] w2.heap.size rfl rfl)
  have l3 := HLY.out _ K3.out
  go_wp2_with fail
  refine (HFY.out _).mono ?_
  rintro e w4 ⟨r0, r1, r2, r3, rfl, ri0, ri1, ri2, ri3, rv, LB⟩
  have K4 := hide (K3.out.below LB)
  have O4 := hide (O3.out.below LB)
  have Z4 := hide (Z3.out.below LB)
  have U4 := hide (below_then U3.out LB)
  have C4 := hide (C3.out.below LB)
  have X4 := hide (X3.out.below LB)
  go_wp2_with fail
  refine (lifted_yes r0 r1 r2 r3 (dn Y) ri0 ri1 ri2 ri3 rv HPY.out _ C4.out).mono ?_
  rintro e w5 ⟨y0, y1, y2, y3, rfl, NY, LB⟩
  have NY := hide NY
  have K5 := hide (K4.out.below LB)
  have O5 := hide (O4.out.below LB)
  have Z5 := hide (Z4.out.below LB)
  have U5 := hide (below_then U4.out LB)
  have C5 := hide (C4.out.below LB)
  have X5 := hide (X4.out.below LB)
  clear ri0 ri1 ri2 ri3 rv hst
  have hst := st4n w5 y0 y1 y2 y3
  have K6 := hide (K5.out.alloc (.cells #[.int .u64 y0, .int .u64 y1, .int .u64 y2, .int .u64 y3] 70))
  have O6 := hide (O5.out.alloc (.cells #[.int .u64 y0, .int .u64 y1, .int .u64 y2, .int .u64 y3] 70))
  have Z6 := hide (Z5.out.alloc (.cells #[.int .u64 y0, .int .u64 y1, .int .u64 y2, .int .u64 y3] 70))
  have U6 := hide (U5.out.alloc U5.out.size (.cells #[.int .u64 y0, .int .u64 y1, .int .u64 y2, .int .u64 y3] 70))
  have C6 := hide (C5.out.alloc (.cells #[.int .u64 y0, .int .u64 y1, .int .u64 y2, .int .u64 y3] 70))
  have X6 := hide (X5.out.alloc (.cells #[.int .u64 y0, .int .u64 y1, .int .u64 y2, .int .u64 y3] 70))
  have Y6 := hide (Blk.new (T := 70) w5 (L4 y0 y1 y2 y3) #[.int .u64 y0, .int .u64 y1, .int .u64 y2, .int .u64 y3] w5.heap.size rfl rfl)
  have nXZ : w.heap.size + 1 + 1 < w2.heap.size := Z2.out.lt
  have nYZ : w.heap.size + 1 + 1 < w5.heap.size := Z5.out.lt
  have NXZ := hide nXZ
  have NYZ := hide nYZ
  clear nXZ nYZ
  go_wp2
  have HGG : Hid (3 < w.heap.size + 1 + 1 ∧ 4 < w.heap.size + 1 + 1 ∧ 5 < w.heap.size + 1 + 1) := by have := HC.out.lt; unfold Hid; omega
  generalize (w5.alloc (.cells #[.int .u64 y0, .int .u64 y1, .int .u64 y2, .int .u64 y3] 70)) = V0 at X6 Y6 C6 O6 Z6 U6 ⊢
  have X7 := hide (X6.out.heap (w' := V0.drew) rfl)
  have Y7 := hide (Y6.out.heap (w' := V0.drew) rfl)
  have C7 := hide (C6.out.heap (w' := V0.drew) rfl)
  have O7 := hide (O6.out.heap (w' := V0.drew) rfl)
  have Z7 := hide (Z6.out.heap (w' := V0.drew) rfl)
  have U7 : Hid (Below w.heap.size w V0.drew) := Drew.below (by exact ⟨rfl, rfl, rfl, rfl⟩) U6.out
  refine wp_region_held_drew (S := fun W => (ldA 70 (.pointer (some ⟨w2.heap.size, 0, none⟩))).run Tryd.prog W = .ok (.agg #[.int .u64 x0, .int .u64 x1, .int .u64 x2, .int .u64 x3]) W ∧ (ldA 70 (.pointer (some ⟨w5.heap.size, 0, none⟩))).run Tryd.prog W = .ok (.agg #[.int .u64 y0, .int .u64 y1, .int .u64 y2, .int .u64 y3]) W ∧ (ldA 70 (.pointer (some ⟨4, 0, none⟩))).run Tryd.prog W = .ok (.agg #[.int .u64 1, .int .u64 18446744069414584320, .int .u64 18446744073709551615, .int .u64 4294967294]) W ∧ W.cell? ⟨w.heap.size + 1, 2, none⟩ = some (.func (.func 62) #[] #[]) ∧ (ldA 67 (.pointer (some ⟨w.heap.size + 1, 0, none⟩))).run Tryd.prog W = .ok (.agg #[.func (.func 60) #[] #[], .func (.func 61) #[] #[], .func (.func 62) #[] #[], .func (.func 60) #[.agg #[.int .u64 b0, .int .u64 b1, .int .u64 b2, .int .u64 b3]] #[], .func (.func 62) #[.agg #[.int .u64 b0, .int .u64 b1, .int .u64 b2, .int .u64 b3]] #[]]) W) (by kernel_rfl) (spr_S X7.out Y7.out C7.out O7.out) (fun _ => ?_)
  generalize V0.drew = V at X7 Y7 C7 O7 Z7 U7 ⊢
  have hS0 := spr_S X7.out Y7.out C7.out O7.out
  have hst8 := stT Z7.out rfl x0 x1 x2 x3 y0 y1 y2 y3 1 18446744069414584320 18446744073709551615 4294967294
  simp only [T12] at hst8
  refine wpAnyH_take (i := 0) (v := ?_) rfl (by kernel_rfl) (by kernel_rfl) (by kernel_rfl) (fun _ _ _ h => h) (Or.inl ⟨by rfl, ?_⟩) (by assumption) ?_
  rotate_left
  · intro wq hSq
    obtain ⟨q0, q1, q2, q3, q4⟩ := hSq
    go_simp
    try with_reducible rfl
  simp only [List.getElem_toArray, List.getElem_cons_zero, Act.put, List.setIfInBounds_toArray, List.set_cons_zero, List.set_cons_succ]
  refine wpAnyH_take (i := 1) (v := ?_) rfl (by kernel_rfl) (by kernel_rfl) (by kernel_rfl) (fun _ _ _ h => h) (Or.inl ⟨by rfl, ?_⟩) (by assumption) ?_
  rotate_left
  · intro wq hSq
    obtain ⟨q0, q1, q2, q3, q4⟩ := hSq
    go_simp
    try with_reducible rfl
  simp only [List.getElem_toArray, List.getElem_cons_succ, List.getElem_cons_zero, Act.put, List.setIfInBounds_toArray, List.set_cons_zero, List.set_cons_succ]
  refine wpAnyH_take (i := 2) (v := ?_) rfl (by kernel_rfl) (by kernel_rfl) (by kernel_rfl) (fun _ _ _ h => h) (Or.inl ⟨by rfl, ?_⟩) (by assumption) ?_
  rotate_left
  · intro wq hSq
    obtain ⟨q0, q1, q2, q3, q4⟩ := hSq
    go_simp
    try with_reducible rfl
  simp only [List.getElem_toArray, List.getElem_cons_succ, List.getElem_cons_zero, Act.put, List.setIfInBounds_toArray, List.set_cons_zero, List.set_cons_succ]
  refine wpAnyH_take (i := 3) (v := ?_) rfl (by kernel_rfl) (by kernel_rfl) (by kernel_rfl) (fun _ _ _ h => h) (Or.inl ⟨by rfl, ?_⟩) (by assumption) ?_
  rotate_left
  · intro wq hSq
    obtain ⟨q0, q1, q2, q3, q4⟩ := hSq
    go_simp
    try with_reducible rfl
  simp only [List.getElem_toArray, List.getElem_cons_succ, List.getElem_cons_zero, Act.put, List.setIfInBounds_toArray, List.set_cons_zero, List.set_cons_succ]
  refine wpAnyH_take (i := 4) (v := ?_) rfl (by kernel_rfl) (by kernel_rfl) (by kernel_rfl) (fun _ _ _ h => h) (Or.inl ⟨by rfl, ?_⟩) (by assumption) ?_
  rotate_left
  · intro wq hSq
    obtain ⟨q0, q1, q2, q3, q4⟩ := hSq
    go_simp
    try with_reducible rfl
  simp only [List.getElem_toArray, List.getElem_cons_succ, List.getElem_cons_zero, Act.put, List.setIfInBounds_toArray, List.set_cons_zero, List.set_cons_succ]
  refine wpAnyH_take (i := 5) (v := ?_) rfl (by kernel_rfl) (by kernel_rfl) (by kernel_rfl) (fun _ _ _ h => h) (Or.inl ⟨by rfl, ?_⟩) (by assumption) ?_
  rotate_left
  · intro wq hSq
    obtain ⟨q0, q1, q2, q3, q4⟩ := hSq
    go_simp
    try with_reducible rfl
  simp only [List.getElem_toArray, List.getElem_cons_succ, List.getElem_cons_zero, Act.put, List.setIfInBounds_toArray, List.set_cons_zero, List.set_cons_succ]
  refine wpAnyH_take (i := 6) (v := undef) rfl (by kernel_rfl) (by kernel_rfl) (by kernel_rfl) (fun _ _ _ h => h) (Or.inr ⟨by rfl, rfl⟩) (by assumption) ?_
  simp only [List.getElem_toArray, List.getElem_cons_succ, List.getElem_cons_zero, Act.put, List.setIfInBounds_toArray, List.set_cons_zero, List.set_cons_succ]
  refine wpAnyH_take (i := 7) (v := ?_) rfl (by kernel_rfl) (by kernel_rfl) (by kernel_rfl) (fun _ _ _ h => h) (Or.inl ⟨by rfl, ?_⟩) (by assumption) ?_
  rotate_left
  · intro wq hSq
    obtain ⟨q0, q1, q2, q3, q4⟩ := hSq
    go_simp
    try with_reducible rfl
  simp only [List.getElem_toArray, List.getElem_cons_succ, List.getElem_cons_zero, Act.put, List.setIfInBounds_toArray, List.set_cons_zero, List.set_cons_succ]
  refine wpAnyH_take (i := 8) (v := ?_) rfl (by kernel_rfl) (by kernel_rfl) (by kernel_rfl) (fun _ _ _ h => h) (Or.inl ⟨by rfl, ?_⟩) (by assumption) ?_
  rotate_left
  · intro wq hSq
    obtain ⟨q0, q1, q2, q3, q4⟩ := hSq
    go_simp
    try with_reducible rfl
  simp only [List.getElem_toArray, List.getElem_cons_succ, List.getElem_cons_zero, Act.put, List.setIfInBounds_toArray, List.set_cons_zero, List.set_cons_succ]
  refine wpAnyH_take (i := 9) (v := undef) rfl (by kernel_rfl) (by kernel_rfl) (by kernel_rfl) (fun _ _ _ h => h) (Or.inr ⟨by rfl, rfl⟩) (by assumption) ?_
  simp only [List.getElem_toArray, List.getElem_cons_succ, List.getElem_cons_zero, Act.put, List.setIfInBounds_toArray, List.set_cons_zero, List.set_cons_succ]
  refine wpAnyH_take (i := 10) (v := undef) rfl (by kernel_rfl) (by kernel_rfl) (by kernel_rfl) (fun _ _ _ h => h) (Or.inr ⟨by rfl, rfl⟩) (by assumption) ?_
  simp only [List.getElem_toArray, List.getElem_cons_succ, List.getElem_cons_zero, Act.put, List.setIfInBounds_toArray, List.set_cons_zero, List.set_cons_succ]
  refine wpAnyH_take (i := 11) (v := undef) rfl (by kernel_rfl) (by kernel_rfl) (by kernel_rfl) (fun _ _ _ h => h) (Or.inr ⟨by rfl, rfl⟩) (by assumption) ?_
  simp only [List.getElem_toArray, List.getElem_cons_succ, List.getElem_cons_zero, Act.put, List.setIfInBounds_toArray, List.set_cons_zero, List.set_cons_succ]
  refine wpAnyH_take (i := 12) (v := undef) rfl (by kernel_rfl) (by kernel_rfl) (by kernel_rfl) (fun _ _ _ h => h) (Or.inr ⟨by rfl, rfl⟩) (by assumption) ?_
  simp only [List.getElem_toArray, List.getElem_cons_succ, List.getElem_cons_zero, Act.put, List.setIfInBounds_toArray, List.set_cons_zero, List.set_cons_succ]
  refine wpAnyH_take (i := 13) (v := undef) rfl (by kernel_rfl) (by kernel_rfl) (by kernel_rfl) (fun _ _ _ h => h) (Or.inr ⟨by rfl, rfl⟩) (by assumption) ?_
  simp only [List.getElem_toArray, List.getElem_cons_succ, List.getElem_cons_zero, Act.put, List.setIfInBounds_toArray, List.set_cons_zero, List.set_cons_succ]
  refine wpAnyH_take (i := 14) (v := undef) rfl (by kernel_rfl) (by kernel_rfl) (by kernel_rfl) (fun _ _ _ h => h) (Or.inr ⟨by rfl, rfl⟩) (by assumption) ?_
  simp only [List.getElem_toArray, List.getElem_cons_succ, List.getElem_cons_zero, Act.put, List.setIfInBounds_toArray, List.set_cons_zero, List.set_cons_succ]
  refine wpAnyH_take (i := 15) (v := undef) rfl (by kernel_rfl) (by kernel_rfl) (by kernel_rfl) (fun _ _ _ h => h) (Or.inr ⟨by rfl, rfl⟩) (by assumption) ?_
  simp only [List.getElem_toArray, List.getElem_cons_succ, List.getElem_cons_zero, Act.put, List.setIfInBounds_toArray, List.set_cons_zero, List.set_cons_succ]
  refine wpAnyH_take (i := 16) (v := undef) rfl (by kernel_rfl) (by kernel_rfl) (by kernel_rfl) (fun _ _ _ h => h) (Or.inr ⟨by rfl, rfl⟩) (by assumption) ?_
  simp only [List.getElem_toArray, List.getElem_cons_succ, List.getElem_cons_zero, Act.put, List.setIfInBounds_toArray, List.set_cons_zero, List.set_cons_succ]
  refine wpAnyH_take (i := 17) (v := undef) rfl (by kernel_rfl) (by kernel_rfl) (by kernel_rfl) (fun _ _ _ h => h) (Or.inr ⟨by rfl, rfl⟩) (by assumption) ?_
  simp only [List.getElem_toArray, List.getElem_cons_succ, List.getElem_cons_zero, Act.put, List.setIfInBounds_toArray, List.set_cons_zero, List.set_cons_succ]
  refine wpAnyH_take (i := 18) (v := ?_) rfl (by kernel_rfl) (by kernel_rfl) (by kernel_rfl) (fun _ _ _ h => h) (Or.inl ⟨by rfl, ?_⟩) (by assumption) ?_
  rotate_left
  · intro wq hSq
    obtain ⟨q0, q1, q2, q3, q4⟩ := hSq
    go_simp
    try with_reducible rfl
  simp only [List.getElem_toArray, List.getElem_cons_succ, List.getElem_cons_zero, Act.put, List.setIfInBounds_toArray, List.set_cons_zero, List.set_cons_succ]
  clear hS0
  refine wpAnyH_ready (rs := [19]) (by kernel_rfl) (by simp) ?_
  refine AllReadyH.cons rfl (fun Kq hKq => ?_) AllReadyH.nil
  go_simp
  refine hKq.out _ _ ?_ (fun hHeld => ?_)
  · exact spr_S (X7.out.other (by have := NXZ.out; omega)) (Y7.out.other (by have := NYZ.out; omega)) (C7.out.sets HGG.out) (O7.out.other (by omega))
  clear hKq Kq
  refine wpAnyH_ready (rs := [20]) (by kernel_rfl) (by simp) ?_
  refine AllReadyH.cons rfl (fun Kq hKq => ?_) AllReadyH.nil
  go_simp
  refine hKq.out _ _ hHeld (fun _ => ?_)
  clear hKq Kq hHeld
  refine wpAnyH_done (by kernel_rfl) ?_ _
  go_wp2
  refine bodyPost_ret (v := .tuple #[.agg (T12 x0 x1 x2 x3 y0 y1 y2 y3 1 18446744069414584320 18446744073709551615 4294967294).toArray, .bool false]) ?_ rfl ⟨x0, x1, x2, x3, y0, y1, y2, y3, by rw [HON.out], by rw [if_neg (Int.not_lt.2 HPX.out)]; exact NX.out, by rw [if_pos HPY.out]; exact NY.out, below_sets U7.out (by omega) U7.out.size _ _⟩
  exact res_two (p := 4) (q := 5) (T := 72) (X := T12 x0 x1 x2 x3 y0 y1 y2 y3 1 18446744069414584320 18446744073709551615 4294967294) (g := w.heap.size + 1 + 1) (by kernel_rfl) _ _ rfl Tryd.underlying72 rfl (by kernel_rfl) (blk_all Z7.out rfl)

set_option maxRecDepth 100000 in
set_option maxHeartbeats 2000000 in
theorem spread_yn (X Y : List Int) (hX : X.length = 32) (hY : Y.length = 32) (dX : Dg 256 X) (dY : Dg 256 Y) (b0 b1 b2 b3 : Int) (hb : Nw b0 b1 b2 b3 BM) (w : World) (hC : Cv w) (hPX : dn X < PP) (hPY : PP ≤ dn Y) :
    Calls Tryd.prog 29 #[.agg (pL X Y false).toArray, .agg (opL b0 b1 b2 b3).toArray] w (Sp X Y w) := by
  have HPX := hide hPX
  have HPY := hide hPY
  have HON : Hid (onP X Y false = false) := by unfold Hid; simp [onP]; omega
  clear hPX hPY
  obtain ⟨L, hL⟩ : ∃ L, pL X Y false = L := ⟨_, rfl⟩
  have K0 := hide (W3_a w (pL X Y false) (opL b0 b1 b2 b3) T0 25 67 72)
  have HLX : Hid (∀ W, Blk 25 W w.heap.size L → (ldA 23 (.pointer (some ⟨w.heap.size, 0, none⟩))).run Tryd.prog W = .ok (.agg (bV X).toArray) W) := by
    intro W h
    rw [← hL] at h
    exact (pnt_ld hX hY h).2.1
  have HLY : Hid (∀ W, Blk 25 W w.heap.size L → (ldA 23 (.pointer (some ⟨w.heap.size, 32, none⟩))).run Tryd.prog W = .ok (.agg (bV Y).toArray) W) := by
    intro W h
    rw [← hL] at h
    exact (pnt_ld hX hY h).2.2.1
  have c0 : L[64]? = some (.bool false) := by rw [← hL]; simp [pL, hX, hY]
  have hone : ∀ v ∈ L, v.oneCell' = true := by rw [← hL]; exact pL_one X Y false
  rw [hL] at K0 ⊢
  have HFX : Hid (∀ W, Calls Tryd.prog 63 #[.agg (bV X).toArray] W fun e w' => ∃ r0 r1 r2 r3, e = .returned (.agg #[.int .u64 r0, .int .u64 r1, .int .u64 r2, .int .u64 r3]) ∧ is64 r0 ∧ is64 r1 ∧ is64 r2 ∧ is64 r3 ∧ V4 r0 r1 r2 r3 = dn X ∧ Below W.heap.size W w') := fun W => fromDigest_any X dX hX W
  have HFY : Hid (∀ W, Calls Tryd.prog 63 #[.agg (bV Y).toArray] W fun e w' => ∃ r0 r1 r2 r3, e = .returned (.agg #[.int .u64 r0, .int .u64 r1, .int .u64 r2, .int .u64 r3]) ∧ is64 r0 ∧ is64 r1 ∧ is64 r2 ∧ is64 r3 ∧ V4 r0 r1 r2 r3 = dn Y ∧ Below W.heap.size W w') := fun W => fromDigest_any Y dY hY W
  have HC := hide hC
  have HBb := hide hb
  clear hL hX hY hC dX dY hb
  have O0 := hide (W3_b w L (opL b0 b1 b2 b3) T0 25 67 72)
  have Z0 := hide (W3_c w L (opL b0 b1 b2 b3) T0 25 67 72)
  have U0 := hide (W3_w w L (opL b0 b1 b2 b3) T0 25 67 72)
  have C0 := hide (HC.out.below U0.out)
  have l0 := HLX.out _ K0.out
  simp only [W3, opL, T0, T12] at l0
  go_enter Tryd.func29, Tryd.ntmps29
  simp only [opL]
  go_wp2_with fail
  refine (HFX.out _).mono ?_
  rintro e w1 ⟨r0, r1, r2, r3, rfl, ri0, ri1, ri2, ri3, rv, LB⟩
  have K1 := hide (K0.out.below LB)
  have O1 := hide (O0.out.below LB)
  have Z1 := hide (Z0.out.below LB)
  have U1 := hide (below_then U0.out LB)
  have C1 := hide (C0.out.below LB)
  go_wp2_with fail
  refine (lifted_yes r0 r1 r2 r3 (dn X) ri0 ri1 ri2 ri3 rv HPX.out _ C1.out).mono ?_
  rintro e w2 ⟨x0, x1, x2, x3, rfl, NX, LB⟩
  have NX := hide NX
  have K2 := hide (K1.out.below LB)
  have O2 := hide (O1.out.below LB)
  have Z2 := hide (Z1.out.below LB)
  have U2 := hide (below_then U1.out LB)
  have C2 := hide (C1.out.below LB)
  clear ri0 ri1 ri2 ri3 rv
  have hst := st4n w2 x0 x1 x2 x3
  have K3 := hide (K2.out.alloc (.cells #[.int .u64 x0, .int .u64 x1, .int .u64 x2, .int .u64 x3] 70))
  have O3 := hide (O2.out.alloc (.cells #[.int .u64 x0, .int .u64 x1, .int .u64 x2, .int .u64 x3] 70))
  have Z3 := hide (Z2.out.alloc (.cells #[.int .u64 x0, .int .u64 x1, .int .u64 x2, .int .u64 x3] 70))
  have U3 := hide (U2.out.alloc U2.out.size (.cells #[.int .u64 x0, .int .u64 x1, .int .u64 x2, .int .u64 x3] 70))
  have C3 := hide (C2.out.alloc (.cells #[.int .u64 x0, .int .u64 x1, .int .u64 x2, .int .u64 x3] 70))
  have X3 := hide (Blk.new (T := 70) w2 (L4 x0 x1 x2 x3) #[.int .u64 x0, .int .u64 x1, .int .u64 x2, .int .u64 x3] w2.heap.size rfl rfl)
  have l3 := HLY.out _ K3.out
  go_wp2_with fail
  refine (HFY.out _).mono ?_
  rintro e w4 ⟨r0, r1, r2, r3, rfl, ri0, ri1, ri2, ri3, rv, LB⟩
  have K4 := hide (K3.out.below LB)
  have O4 := hide (O3.out.below LB)
  have Z4 := hide (Z3.out.below LB)
  have U4 := hide (below_then U3.out LB)
  have C4 := hide (C3.out.below LB)
  have X4 := hide (X3.out.below LB)
  go_wp2_with fail
  refine (lifted_no r0 r1 r2 r3 (dn Y) ri0 ri1 ri2 ri3 rv HPY.out _ C4.out).mono ?_
  rintro e w5 ⟨y0, y1, y2, y3, rfl, NY, LB⟩
  have NY := hide NY
  have K5 := hide (K4.out.below LB)
  have O5 := hide (O4.out.below LB)
  have Z5 := hide (Z4.out.below LB)
  have U5 := hide (below_then U4.out LB)
  have C5 := hide (C4.out.below LB)
  have X5 := hide (X4.out.below LB)
  clear ri0 ri1 ri2 ri3 rv hst
  have hst := st4n w5 y0 y1 y2 y3
  have K6 := hide (K5.out.alloc (.cells #[.int .u64 y0, .int .u64 y1, .int .u64 y2, .int .u64 y3] 70))
  have O6 := hide (O5.out.alloc (.cells #[.int .u64 y0, .int .u64 y1, .int .u64 y2, .int .u64 y3] 70))
  have Z6 := hide (Z5.out.alloc (.cells #[.int .u64 y0, .int .u64 y1, .int .u64 y2, .int .u64 y3] 70))
  have U6 := hide (U5.out.alloc U5.out.size (.cells #[.int .u64 y0, .int .u64 y1, .int .u64 y2, .int .u64 y3] 70))
  have C6 := hide (C5.out.alloc (.cells #[.int .u64 y0, .int .u64 y1, .int .u64 y2, .int .u64 y3] 70))
  have X6 := hide (X5.out.alloc (.cells #[.int .u64 y0, .int .u64 y1, .int .u64 y2, .int .u64 y3] 70))
  have Y6 := hide (Blk.new (T := 70) w5 (L4 y0 y1 y2 y3) #[.int .u64 y0, .int .u64 y1, .int .u64 y2, .int .u64 y3] w5.heap.size rfl rfl)
  have nXZ : w.heap.size + 1 + 1 < w2.heap.size := Z2.out.lt
  have nYZ : w.heap.size + 1 + 1 < w5.heap.size := Z5.out.lt
  have NXZ := hide nXZ
  have NYZ := hide nYZ
  clear nXZ nYZ
  go_wp2
  have HGG : Hid (3 < w.heap.size + 1 + 1 ∧ 4 < w.heap.size + 1 + 1 ∧ 5 < w.heap.size + 1 + 1) := by have := HC.out.lt; unfold Hid; omega
  generalize (w5.alloc (.cells #[.int .u64 y0, .int .u64 y1, .int .u64 y2, .int .u64 y3] 70)) = V0 at X6 Y6 C6 O6 Z6 U6 ⊢
  have X7 := hide (X6.out.heap (w' := V0.drew) rfl)
  have Y7 := hide (Y6.out.heap (w' := V0.drew) rfl)
  have C7 := hide (C6.out.heap (w' := V0.drew) rfl)
  have O7 := hide (O6.out.heap (w' := V0.drew) rfl)
  have Z7 := hide (Z6.out.heap (w' := V0.drew) rfl)
  have U7 : Hid (Below w.heap.size w V0.drew) := Drew.below (by exact ⟨rfl, rfl, rfl, rfl⟩) U6.out
  refine wp_region_held_drew (S := fun W => (ldA 70 (.pointer (some ⟨w2.heap.size, 0, none⟩))).run Tryd.prog W = .ok (.agg #[.int .u64 x0, .int .u64 x1, .int .u64 x2, .int .u64 x3]) W ∧ (ldA 70 (.pointer (some ⟨w5.heap.size, 0, none⟩))).run Tryd.prog W = .ok (.agg #[.int .u64 y0, .int .u64 y1, .int .u64 y2, .int .u64 y3]) W ∧ (ldA 70 (.pointer (some ⟨4, 0, none⟩))).run Tryd.prog W = .ok (.agg #[.int .u64 1, .int .u64 18446744069414584320, .int .u64 18446744073709551615, .int .u64 4294967294]) W ∧ W.cell? ⟨w.heap.size + 1, 2, none⟩ = some (.func (.func 62) #[] #[]) ∧ (ldA 67 (.pointer (some ⟨w.heap.size + 1, 0, none⟩))).run Tryd.prog W = .ok (.agg #[.func (.func 60) #[] #[], .func (.func 61) #[] #[], .func (.func 62) #[] #[], .func (.func 60) #[.agg #[.int .u64 b0, .int .u64 b1, .int .u64 b2, .int .u64 b3]] #[], .func (.func 62) #[.agg #[.int .u64 b0, .int .u64 b1, .int .u64 b2, .int .u64 b3]] #[]]) W) (by kernel_rfl) (spr_S X7.out Y7.out C7.out O7.out) (fun _ => ?_)
  generalize V0.drew = V at X7 Y7 C7 O7 Z7 U7 ⊢
  have hS0 := spr_S X7.out Y7.out C7.out O7.out
  have hst8 := stT Z7.out rfl x0 x1 x2 x3 y0 y1 y2 y3 1 18446744069414584320 18446744073709551615 4294967294
  simp only [T12] at hst8
  refine wpAnyH_take (i := 0) (v := ?_) rfl (by kernel_rfl) (by kernel_rfl) (by kernel_rfl) (fun _ _ _ h => h) (Or.inl ⟨by rfl, ?_⟩) (by assumption) ?_
  rotate_left
  · intro wq hSq
    obtain ⟨q0, q1, q2, q3, q4⟩ := hSq
    go_simp
    try with_reducible rfl
  simp only [List.getElem_toArray, List.getElem_cons_zero, Act.put, List.setIfInBounds_toArray, List.set_cons_zero, List.set_cons_succ]
  refine wpAnyH_take (i := 1) (v := ?_) rfl (by kernel_rfl) (by kernel_rfl) (by kernel_rfl) (fun _ _ _ h => h) (Or.inl ⟨by rfl, ?_⟩) (by assumption) ?_
  rotate_left
  · intro wq hSq
    obtain ⟨q0, q1, q2, q3, q4⟩ := hSq
    go_simp
    try with_reducible rfl
  simp only [List.getElem_toArray, List.getElem_cons_succ, List.getElem_cons_zero, Act.put, List.setIfInBounds_toArray, List.set_cons_zero, List.set_cons_succ]
  refine wpAnyH_take (i := 2) (v := ?_) rfl (by kernel_rfl) (by kernel_rfl) (by kernel_rfl) (fun _ _ _ h => h) (Or.inl ⟨by rfl, ?_⟩) (by assumption) ?_
  rotate_left
  · intro wq hSq
    obtain ⟨q0, q1, q2, q3, q4⟩ := hSq
    go_simp
    try with_reducible rfl
  simp only [List.getElem_toArray, List.getElem_cons_succ, List.getElem_cons_zero, Act.put, List.setIfInBounds_toArray, List.set_cons_zero, List.set_cons_succ]
  refine wpAnyH_take (i := 3) (v := ?_) rfl (by kernel_rfl) (by kernel_rfl) (by kernel_rfl) (fun _ _ _ h => h) (Or.inl ⟨by rfl, ?_⟩) (by assumption) ?_
  rotate_left
  · intro wq hSq
    obtain ⟨q0, q1, q2, q3, q4⟩ := hSq
    go_simp
    try with_reducible rfl
  simp only [List.getElem_toArray, List.getElem_cons_succ, List.getElem_cons_zero, Act.put, List.setIfInBounds_toArray, List.set_cons_zero, List.set_cons_succ]
  refine wpAnyH_take (i := 4) (v := ?_) rfl (by kernel_rfl) (by kernel_rfl) (by kernel_rfl) (fun _ _ _ h => h) (Or.inl ⟨by rfl, ?_⟩) (by assumption) ?_
  rotate_left
  · intro wq hSq
    obtain ⟨q0, q1, q2, q3, q4⟩ := hSq
    go_simp
    try with_reducible rfl
  simp only [List.getElem_toArray, List.getElem_cons_succ, List.getElem_cons_zero, Act.put, List.setIfInBounds_toArray, List.set_cons_zero, List.set_cons_succ]
  refine wpAnyH_take (i := 5) (v := ?_) rfl (by kernel_rfl) (by kernel_rfl) (by kernel_rfl) (fun _ _ _ h => h) (Or.inl ⟨by rfl, ?_⟩) (by assumption) ?_
  rotate_left
  · intro wq hSq
    obtain ⟨q0, q1, q2, q3, q4⟩ := hSq
    go_simp
    try with_reducible rfl
  simp only [List.getElem_toArray, List.getElem_cons_succ, List.getElem_cons_zero, Act.put, List.setIfInBounds_toArray, List.set_cons_zero, List.set_cons_succ]
  refine wpAnyH_take (i := 6) (v := ?_) rfl (by kernel_rfl) (by kernel_rfl) (by kernel_rfl) (fun _ _ _ h => h) (Or.inl ⟨by rfl, ?_⟩) (by assumption) ?_
  rotate_left
  · intro wq hSq
    obtain ⟨q0, q1, q2, q3, q4⟩ := hSq
    go_simp
    try with_reducible rfl
  simp only [List.getElem_toArray, List.getElem_cons_succ, List.getElem_cons_zero, Act.put, List.setIfInBounds_toArray, List.set_cons_zero, List.set_cons_succ]
  refine wpAnyH_take (i := 7) (v := ?_) rfl (by kernel_rfl) (by kernel_rfl) (by kernel_rfl) (fun _ _ _ h => h) (Or.inl ⟨by rfl, ?_⟩) (by assumption) ?_
  rotate_left
  · intro wq hSq
    obtain ⟨q0, q1, q2, q3, q4⟩ := hSq
    go_simp
    try with_reducible rfl
  simp only [List.getElem_toArray, List.getElem_cons_succ, List.getElem_cons_zero, Act.put, List.setIfInBounds_toArray, List.set_cons_zero, List.set_cons_succ]
  refine wpAnyH_take (i := 8) (v := ?_) rfl (by kernel_rfl) (by kernel_rfl) (by kernel_rfl) (fun _ _ _ h => h) (Or.inl ⟨by rfl, ?_⟩) (by assumption) ?_
  rotate_left
  · intro wq hSq
    obtain ⟨q0, q1, q2, q3, q4⟩ := hSq
    go_simp
    try with_reducible rfl
  simp only [List.getElem_toArray, List.getElem_cons_succ, List.getElem_cons_zero, Act.put, List.setIfInBounds_toArray, List.set_cons_zero, List.set_cons_succ]
  refine wpAnyH_take (i := 9) (v := undef) rfl (by kernel_rfl) (by kernel_rfl) (by kernel_rfl) (fun _ _ _ h => h) (Or.inr ⟨by rfl, rfl⟩) (by assumption) ?_
  simp only [List.getElem_toArray, List.getElem_cons_succ, List.getElem_cons_zero, Act.put, List.setIfInBounds_toArray, List.set_cons_zero, List.set_cons_succ]
  refine wpAnyH_take (i := 10) (v := undef) rfl (by kernel_rfl) (by kernel_rfl) (by kernel_rfl) (fun _ _ _ h => h) (Or.inr ⟨by rfl, rfl⟩) (by assumption) ?_
  simp only [List.getElem_toArray, List.getElem_cons_succ, List.getElem_cons_zero, Act.put, List.setIfInBounds_toArray, List.set_cons_zero, List.set_cons_succ]
  refine wpAnyH_take (i := 11) (v := undef) rfl (by kernel_rfl) (by kernel_rfl) (by kernel_rfl) (fun _ _ _ h => h) (Or.inr ⟨by rfl, rfl⟩) (by assumption) ?_
  simp only [List.getElem_toArray, List.getElem_cons_succ, List.getElem_cons_zero, Act.put, List.setIfInBounds_toArray, List.set_cons_zero, List.set_cons_succ]
  refine wpAnyH_take (i := 12) (v := undef) rfl (by kernel_rfl) (by kernel_rfl) (by kernel_rfl) (fun _ _ _ h => h) (Or.inr ⟨by rfl, rfl⟩) (by assumption) ?_
  simp only [List.getElem_toArray, List.getElem_cons_succ, List.getElem_cons_zero, Act.put, List.setIfInBounds_toArray, List.set_cons_zero, List.set_cons_succ]
  refine wpAnyH_take (i := 13) (v := undef) rfl (by kernel_rfl) (by kernel_rfl) (by kernel_rfl) (fun _ _ _ h => h) (Or.inr ⟨by rfl, rfl⟩) (by assumption) ?_
  simp only [List.getElem_toArray, List.getElem_cons_succ, List.getElem_cons_zero, Act.put, List.setIfInBounds_toArray, List.set_cons_zero, List.set_cons_succ]
  refine wpAnyH_take (i := 14) (v := undef) rfl (by kernel_rfl) (by kernel_rfl) (by kernel_rfl) (fun _ _ _ h => h) (Or.inr ⟨by rfl, rfl⟩) (by assumption) ?_
  simp only [List.getElem_toArray, List.getElem_cons_succ, List.getElem_cons_zero, Act.put, List.setIfInBounds_toArray, List.set_cons_zero, List.set_cons_succ]
  refine wpAnyH_take (i := 15) (v := undef) rfl (by kernel_rfl) (by kernel_rfl) (by kernel_rfl) (fun _ _ _ h => h) (Or.inr ⟨by rfl, rfl⟩) (by assumption) ?_
  simp only [List.getElem_toArray, List.getElem_cons_succ, List.getElem_cons_zero, Act.put, List.setIfInBounds_toArray, List.set_cons_zero, List.set_cons_succ]
  refine wpAnyH_take (i := 16) (v := undef) rfl (by kernel_rfl) (by kernel_rfl) (by kernel_rfl) (fun _ _ _ h => h) (Or.inr ⟨by rfl, rfl⟩) (by assumption) ?_
  simp only [List.getElem_toArray, List.getElem_cons_succ, List.getElem_cons_zero, Act.put, List.setIfInBounds_toArray, List.set_cons_zero, List.set_cons_succ]
  refine wpAnyH_take (i := 17) (v := undef) rfl (by kernel_rfl) (by kernel_rfl) (by kernel_rfl) (fun _ _ _ h => h) (Or.inr ⟨by rfl, rfl⟩) (by assumption) ?_
  simp only [List.getElem_toArray, List.getElem_cons_succ, List.getElem_cons_zero, Act.put, List.setIfInBounds_toArray, List.set_cons_zero, List.set_cons_succ]
  refine wpAnyH_take (i := 18) (v := ?_) rfl (by kernel_rfl) (by kernel_rfl) (by kernel_rfl) (fun _ _ _ h => h) (Or.inl ⟨by rfl, ?_⟩) (by assumption) ?_
  rotate_left
  · intro wq hSq
    obtain ⟨q0, q1, q2, q3, q4⟩ := hSq
    go_simp
    try with_reducible rfl
  simp only [List.getElem_toArray, List.getElem_cons_succ, List.getElem_cons_zero, Act.put, List.setIfInBounds_toArray, List.set_cons_zero, List.set_cons_succ]
  clear hS0
  refine wpAnyH_ready (rs := [19]) (by kernel_rfl) (by simp) ?_
  refine AllReadyH.cons rfl (fun Kq hKq => ?_) AllReadyH.nil
  go_simp
  refine hKq.out _ _ ?_ (fun hHeld => ?_)
  · exact spr_S (X7.out.other (by have := NXZ.out; omega)) (Y7.out.other (by have := NYZ.out; omega)) (C7.out.sets HGG.out) (O7.out.other (by omega))
  clear hKq Kq
  refine wpAnyH_ready (rs := [20]) (by kernel_rfl) (by simp) ?_
  refine AllReadyH.cons rfl (fun Kq hKq => ?_) AllReadyH.nil
  go_simp
  refine hKq.out _ _ hHeld (fun _ => ?_)
  clear hKq Kq hHeld
  refine wpAnyH_done (by kernel_rfl) ?_ _
  go_wp2
  refine bodyPost_ret (v := .tuple #[.agg (T12 x0 x1 x2 x3 y0 y1 y2 y3 1 18446744069414584320 18446744073709551615 4294967294).toArray, .bool false]) ?_ rfl ⟨x0, x1, x2, x3, y0, y1, y2, y3, by rw [HON.out], by rw [if_pos HPX.out]; exact NX.out, by rw [if_neg (Int.not_lt.2 HPY.out)]; exact NY.out, below_sets U7.out (by omega) U7.out.size _ _⟩
  exact res_two (p := 4) (q := 5) (T := 72) (X := T12 x0 x1 x2 x3 y0 y1 y2 y3 1 18446744069414584320 18446744073709551615 4294967294) (g := w.heap.size + 1 + 1) (by kernel_rfl) _ _ rfl Tryd.underlying72 rfl (by kernel_rfl) (blk_all Z7.out rfl)

set_option maxRecDepth 100000 in
set_option maxHeartbeats 2000000 in
theorem spread_nn (X Y : List Int) (hX : X.length = 32) (hY : Y.length = 32) (dX : Dg 256 X) (dY : Dg 256 Y) (b0 b1 b2 b3 : Int) (hb : Nw b0 b1 b2 b3 BM) (w : World) (hC : Cv w) (hPX : PP ≤ dn X) (hPY : PP ≤ dn Y) :
    Calls Tryd.prog 29 #[.agg (pL X Y false).toArray, .agg (opL b0 b1 b2 b3).toArray] w (Sp X Y w) := by
  have HPX := hide hPX
  have HPY := hide hPY
  have HON : Hid (onP X Y false = false) := by unfold Hid; simp [onP]; omega
  clear hPX hPY
  obtain ⟨L, hL⟩ : ∃ L, pL X Y false = L := ⟨_, rfl⟩
  have K0 := hide (W3_a w (pL X Y false) (opL b0 b1 b2 b3) T0 25 67 72)
  have HLX : Hid (∀ W, Blk 25 W w.heap.size L → (ldA 23 (.pointer (some ⟨w.heap.size, 0, none⟩))).run Tryd.prog W = .ok (.agg (bV X).toArray) W) := by
    intro W h
    rw [← hL] at h
    exact (pnt_ld hX hY h).2.1
  have HLY : Hid (∀ W, Blk 25 W w.heap.size L → (ldA 23 (.pointer (some ⟨w.heap.size, 32, none⟩))).run Tryd.prog W = .ok (.agg (bV Y).toArray) W) := by
    intro W h
    rw [← hL] at h
    exact (pnt_ld hX hY h).2.2.1
  have c0 : L[64]? = some (.bool false) := by rw [← hL]; simp [pL, hX, hY]
  have hone : ∀ v ∈ L, v.oneCell' = true := by rw [← hL]; exact pL_one X Y false
  rw [hL] at K0 ⊢
  have HFX : Hid (∀ W, Calls Tryd.prog 63 #[.agg (bV X).toArray] W fun e w' => ∃ r0 r1 r2 r3, e = .returned (.agg #[.int .u64 r0, .int .u64 r1, .int .u64 r2, .int .u64 r3]) ∧ is64 r0 ∧ is64 r1 ∧ is64 r2 ∧ is64 r3 ∧ V4 r0 r1 r2 r3 = dn X ∧ Below W.heap.size W w') := fun W => fromDigest_any X dX hX W
  have HFY : Hid (∀ W, Calls Tryd.prog 63 #[.agg (bV Y).toArray] W fun e w' => ∃ r0 r1 r2 r3, e = .returned (.agg #[.int .u64 r0, .int .u64 r1, .int .u64 r2, .int .u64 r3]) ∧ is64 r0 ∧ is64 r1 ∧ is64 r2 ∧ is64 r3 ∧ V4 r0 r1 r2 r3 = dn Y ∧ Below W.heap.size W w') := fun W => fromDigest_any Y dY hY W
  have HC := hide hC
  have HBb := hide hb
  clear hL hX hY hC dX dY hb
  have O0 := hide (W3_b w L (opL b0 b1 b2 b3) T0 25 67 72)
  have Z0 := hide (W3_c w L (opL b0 b1 b2 b3) T0 25 67 72)
  have U0 := hide (W3_w w L (opL b0 b1 b2 b3) T0 25 67 72)
  have C0 := hide (HC.out.below U0.out)
  have l0 := HLX.out _ K0.out
  simp only [W3, opL, T0, T12] at l0
  go_enter Tryd.func29, Tryd.ntmps29
  simp only [opL]
  go_wp2_with fail
  refine (HFX.out _).mono ?_
  rintro e w1 ⟨r0, r1, r2, r3, rfl, ri0, ri1, ri2, ri3, rv, LB⟩
  have K1 := hide (K0.out.below LB)
  have O1 := hide (O0.out.below LB)
  have Z1 := hide (Z0.out.below LB)
  have U1 := hide (below_then U0.out LB)
  have C1 := hide (C0.out.below LB)
  go_wp2_with fail
  refine (lifted_no r0 r1 r2 r3 (dn X) ri0 ri1 ri2 ri3 rv HPX.out _ C1.out).mono ?_
  rintro e w2 ⟨x0, x1, x2, x3, rfl, NX, LB⟩
  have NX := hide NX
  have K2 := hide (K1.out.below LB)
  have O2 := hide (O1.out.below LB)
  have Z2 := hide (Z1.out.below LB)
  have U2 := hide (below_then U1.out LB)
  have C2 := hide (C1.out.below LB)
  clear ri0 ri1 ri2 ri3 rv
  have hst := st4n w2 x0 x1 x2 x3
  have K3 := hide (K2.out.alloc (.cells #[.int .u64 x0, .int .u64 x1, .int .u64 x2, .int .u64 x3] 70))
  have O3 := hide (O2.out.alloc (.cells #[.int .u64 x0, .int .u64 x1, .int .u64 x2, .int .u64 x3] 70))
  have Z3 := hide (Z2.out.alloc (.cells #[.int .u64 x0, .int .u64 x1, .int .u64 x2, .int .u64 x3] 70))
  have U3 := hide (U2.out.alloc U2.out.size (.cells #[.int .u64 x0, .int .u64 x1, .int .u64 x2, .int .u64 x3] 70))
  have C3 := hide (C2.out.alloc (.cells #[.int .u64 x0, .int .u64 x1, .int .u64 x2, .int .u64 x3] 70))
  have X3 := hide (Blk.new (T := 70) w2 (L4 x0 x1 x2 x3) #[.int .u64 x0, .int .u64 x1, .int .u64 x2, .int .u64 x3] w2.heap.size rfl rfl)
  have l3 := HLY.out _ K3.out
  go_wp2_with fail
  refine (HFY.out _).mono ?_
  rintro e w4 ⟨r0, r1, r2, r3, rfl, ri0, ri1, ri2, ri3, rv, LB⟩
  have K4 := hide (K3.out.below LB)
  have O4 := hide (O3.out.below LB)
  have Z4 := hide (Z3.out.below LB)
  have U4 := hide (below_then U3.out LB)
  have C4 := hide (C3.out.below LB)
  have X4 := hide (X3.out.below LB)
  go_wp2_with fail
  refine (lifted_no r0 r1 r2 r3 (dn Y) ri0 ri1 ri2 ri3 rv HPY.out _ C4.out).mono ?_
  rintro e w5 ⟨y0, y1, y2, y3, rfl, NY, LB⟩
  have NY := hide NY
  have K5 := hide (K4.out.below LB)
  have O5 := hide (O4.out.below LB)
  have Z5 := hide (Z4.out.below LB)
  have U5 := hide (below_then U4.out LB)
  have C5 := hide (C4.out.below LB)
  have X5 := hide (X4.out.below LB)
  clear ri0 ri1 ri2 ri3 rv hst
  have hst := st4n w5 y0 y1 y2 y3
  have K6 := hide (K5.out.alloc (.cells #[.int .u64 y0, .int .u64 y1, .int .u64 y2, .int .u64 y3] 70))
  have O6 := hide (O5.out.alloc (.cells #[.int .u64 y0, .int .u64 y1, .int .u64 y2, .int .u64 y3] 70))
  have Z6 := hide (Z5.out.alloc (.cells #[.int .u64 y0, .int .u64 y1, .int .u64 y2, .int .u64 y3] 70))
  have U6 := hide (U5.out.alloc U5.out.size (.cells #[.int .u64 y0, .int .u64 y1, .int .u64 y2, .int .u64 y3] 70))
  have C6 := hide (C5.out.alloc (.cells #[.int .u64 y0, .int .u64 y1, .int .u64 y2, .int .u64 y3] 70))
  have X6 := hide (X5.out.alloc (.cells #[.int .u64 y0, .int .u64 y1, .int .u64 y2, .int .u64 y3] 70))
  have Y6 := hide (Blk.new (T := 70) w5 (L4 y0 y1 y2 y3) #[.int .u64 y0, .int .u64 y1, .int .u64 y2, .int .u64 y3] w5.heap.size rfl rfl)
  have nXZ : w.heap.size + 1 + 1 < w2.heap.size := Z2.out.lt
  have nYZ : w.heap.size + 1 + 1 < w5.heap.size := Z5.out.lt
  have NXZ := hide nXZ
  have NYZ := hide nYZ
  clear nXZ nYZ
  go_wp2
  have HGG : Hid (3 < w.heap.size + 1 + 1 ∧ 4 < w.heap.size + 1 + 1 ∧ 5 < w.heap.size + 1 + 1) := by have := HC.out.lt; unfold Hid; omega
  generalize (w5.alloc (.cells #[.int .u64 y0, .int .u64 y1, .int .u64 y2, .int .u64 y3] 70)) = V0 at X6 Y6 C6 O6 Z6 U6 ⊢
  have X7 := hide (X6.out.heap (w' := V0.drew) rfl)
  have Y7 := hide (Y6.out.heap (w' := V0.drew) rfl)
  have C7 := hide (C6.out.heap (w' := V0.drew) rfl)
  have O7 := hide (O6.out.heap (w' := V0.drew) rfl)
  have Z7 := hide (Z6.out.heap (w' := V0.drew) rfl)
  have U7 : Hid (Below w.heap.size w V0.drew) := Drew.below (by exact ⟨rfl, rfl, rfl, rfl⟩) U6.out
  refine wp_region_held_drew (S := fun W => (ldA 70 (.pointer (some ⟨w2.heap.size, 0, none⟩))).run Tryd.prog W = .ok (.agg #[.int .u64 x0, .int .u64 x1, .int .u64 x2, .int .u64 x3]) W ∧ (ldA 70 (.pointer (some ⟨w5.heap.size, 0, none⟩))).run Tryd.prog W = .ok (.agg #[.int .u64 y0, .int .u64 y1, .int .u64 y2, .int .u64 y3]) W ∧ (ldA 70 (.pointer (some ⟨4, 0, none⟩))).run Tryd.prog W = .ok (.agg #[.int .u64 1, .int .u64 18446744069414584320, .int .u64 18446744073709551615, .int .u64 4294967294]) W ∧ W.cell? ⟨w.heap.size + 1, 2, none⟩ = some (.func (.func 62) #[] #[]) ∧ (ldA 67 (.pointer (some ⟨w.heap.size + 1, 0, none⟩))).run Tryd.prog W = .ok (.agg #[.func (.func 60) #[] #[], .func (.func 61) #[] #[], .func (.func 62) #[] #[], .func (.func 60) #[.agg #[.int .u64 b0, .int .u64 b1, .int .u64 b2, .int .u64 b3]] #[], .func (.func 62) #[.agg #[.int .u64 b0, .int .u64 b1, .int .u64 b2, .int .u64 b3]] #[]]) W) (by kernel_rfl) (spr_S X7.out Y7.out C7.out O7.out) (fun _ => ?_)
  generalize V0.drew = V at X7 Y7 C7 O7 Z7 U7 ⊢
  have hS0 := spr_S X7.out Y7.out C7.out O7.out
  have hst8 := stT Z7.out rfl x0 x1 x2 x3 y0 y1 y2 y3 1 18446744069414584320 18446744073709551615 4294967294
  simp only [T12] at hst8
  refine wpAnyH_take (i := 0) (v := ?_) rfl (by kernel_rfl) (by kernel_rfl) (by kernel_rfl) (fun _ _ _ h => h) (Or.inl ⟨by rfl, ?_⟩) (by assumption) ?_
  rotate_left
  · intro wq hSq
    obtain ⟨q0, q1, q2, q3, q4⟩ := hSq
    go_simp
    try with_reducible rfl
  simp only [List.getElem_toArray, List.getElem_cons_zero, Act.put, List.setIfInBounds_toArray, List.set_cons_zero, List.set_cons_succ]
  refine wpAnyH_take (i := 1) (v := ?_) rfl (by kernel_rfl) (by kernel_rfl) (by kernel_rfl) (fun _ _ _ h => h) (Or.inl ⟨by rfl, ?_⟩) (by assumption) ?_
  rotate_left
  · intro wq hSq
    obtain ⟨q0, q1, q2, q3, q4⟩ := hSq
    go_simp
    try with_reducible rfl
  simp only [List.getElem_toArray, List.getElem_cons_succ, List.getElem_cons_zero, Act.put, List.setIfInBounds_toArray, List.set_cons_zero, List.set_cons_succ]
  refine wpAnyH_take (i := 2) (v := ?_) rfl (by kernel_rfl) (by kernel_rfl) (by kernel_rfl) (fun _ _ _ h => h) (Or.inl ⟨by rfl, ?_⟩) (by assumption) ?_
  rotate_left
  · intro wq hSq
    obtain ⟨q0, q1, q2, q3, q4⟩ := hSq
    go_simp
    try with_reducible rfl
  simp only [List.getElem_toArray, List.getElem_cons_succ, List.getElem_cons_zero, Act.put, List.setIfInBounds_toArray, List.set_cons_zero, List.set_cons_succ]
  refine wpAnyH_take (i := 3) (v := ?_) rfl (by kernel_rfl) (by kernel_rfl) (by kernel_rfl) (fun _ _ _ h => h) (Or.inl ⟨by rfl, ?_⟩) (by assumption) ?_
  rotate_left
  · intro wq hSq
    obtain ⟨q0, q1, q2, q3, q4⟩ := hSq
    go_simp
    try with_reducible rfl
  simp only [List.getElem_toArray, List.getElem_cons_succ, List.getElem_cons_zero, Act.put, List.setIfInBounds_toArray, List.set_cons_zero, List.set_cons_succ]
  refine wpAnyH_take (i := 4) (v := ?_) rfl (by kernel_rfl) (by kernel_rfl) (by kernel_rfl) (fun _ _ _ h => h) (Or.inl ⟨by rfl, ?_⟩) (by assumption) ?_
  rotate_left
  · intro wq hSq
    obtain ⟨q0, q1, q2, q3, q4⟩ := hSq
    go_simp
    try with_reducible rfl
  simp only [List.getElem_toArray, List.getElem_cons_succ, List.getElem_cons_zero, Act.put, List.setIfInBounds_toArray, List.set_cons_zero, List.set_cons_succ]
  refine wpAnyH_take (i := 5) (v := ?_) rfl (by kernel_rfl) (by kernel_rfl) (by kernel_rfl) (fun _ _ _ h => h) (Or.inl ⟨by rfl, ?_⟩) (by assumption) ?_
  rotate_left
  · intro wq hSq
    obtain ⟨q0, q1, q2, q3, q4⟩ := hSq
    go_simp
    try with_reducible rfl
  simp only [List.getElem_toArray, List.getElem_cons_succ, List.getElem_cons_zero, Act.put, List.setIfInBounds_toArray, List.set_cons_zero, List.set_cons_succ]
  refine wpAnyH_take (i := 6) (v := undef) rfl (by kernel_rfl) (by kernel_rfl) (by kernel_rfl) (fun _ _ _ h => h) (Or.inr ⟨by rfl, rfl⟩) (by assumption) ?_
  simp only [List.getElem_toArray, List.getElem_cons_succ, List.getElem_cons_zero, Act.put, List.setIfInBounds_toArray, List.set_cons_zero, List.set_cons_succ]
  refine wpAnyH_take (i := 7) (v := ?_) rfl (by kernel_rfl) (by kernel_rfl) (by kernel_rfl) (fun _ _ _ h => h) (Or.inl ⟨by rfl, ?_⟩) (by assumption) ?_
  rotate_left
  · intro wq hSq
    obtain ⟨q0, q1, q2, q3, q4⟩ := hSq
    go_simp
    try with_reducible rfl
  simp only [List.getElem_toArray, List.getElem_cons_succ, List.getElem_cons_zero, Act.put, List.setIfInBounds_toArray, List.set_cons_zero, List.set_cons_succ]
  refine wpAnyH_take (i := 8) (v := ?_) rfl (by kernel_rfl) (by kernel_rfl) (by kernel_rfl) (fun _ _ _ h => h) (Or.inl ⟨by rfl, ?_⟩) (by assumption) ?_
  rotate_left
  · intro wq hSq
    obtain ⟨q0, q1, q2, q3, q4⟩ := hSq
    go_simp
    try with_reducible rfl
  simp only [List.getElem_toArray, List.getElem_cons_succ, List.getElem_cons_zero, Act.put, List.setIfInBounds_toArray, List.set_cons_zero, List.set_cons_succ]
  refine wpAnyH_take (i := 9) (v := undef) rfl (by kernel_rfl) (by kernel_rfl) (by kernel_rfl) (fun _ _ _ h => h) (Or.inr ⟨by rfl, rfl⟩) (by assumption) ?_
  simp only [List.getElem_toArray, List.getElem_cons_succ, List.getElem_cons_zero, Act.put, List.setIfInBounds_toArray, List.set_cons_zero, List.set_cons_succ]
  refine wpAnyH_take (i := 10) (v := undef) rfl (by kernel_rfl) (by kernel_rfl) (by kernel_rfl) (fun _ _ _ h => h) (Or.inr ⟨by rfl, rfl⟩) (by assumption) ?_
  simp only [List.getElem_toArray, List.getElem_cons_succ, List.getElem_cons_zero, Act.put, List.setIfInBounds_toArray, List.set_cons_zero, List.set_cons_succ]
  refine wpAnyH_take (i := 11) (v := undef) rfl (by kernel_rfl) (by kernel_rfl) (by kernel_rfl) (fun _ _ _ h => h) (Or.inr ⟨by rfl, rfl⟩) (by assumption) ?_
  simp only [List.getElem_toArray, List.getElem_cons_succ, List.getElem_cons_zero, Act.put, List.setIfInBounds_toArray, List.set_cons_zero, List.set_cons_succ]
  refine wpAnyH_take (i := 12) (v := undef) rfl (by kernel_rfl) (by kernel_rfl) (by kernel_rfl) (fun _ _ _ h => h) (Or.inr ⟨by rfl, rfl⟩) (by assumption) ?_
  simp only [List.getElem_toArray, List.getElem_cons_succ, List.getElem_cons_zero, Act.put, List.setIfInBounds_toArray, List.set_cons_zero, List.set_cons_succ]
  refine wpAnyH_take (i := 13) (v := undef) rfl (by kernel_rfl) (by kernel_rfl) (by kernel_rfl) (fun _ _ _ h => h) (Or.inr ⟨by rfl, rfl⟩) (by assumption) ?_
  simp only [List.getElem_toArray, List.getElem_cons_succ, List.getElem_cons_zero, Act.put, List.setIfInBounds_toArray, List.set_cons_zero, List.set_cons_succ]
  refine wpAnyH_take (i := 14) (v := undef) rfl (by kernel_rfl) (by kernel_rfl) (by kernel_rfl) (fun _ _ _ h => h) (Or.inr ⟨by rfl, rfl⟩) (by assumption) ?_
  simp only [List.getElem_toArray, List.getElem_cons_succ, List.getElem_cons_zero, Act.put, List.setIfInBounds_toArray, List.set_cons_zero, List.set_cons_succ]
  refine wpAnyH_take (i := 15) (v := undef) rfl (by kernel_rfl) (by kernel_rfl) (by kernel_rfl) (fun _ _ _ h => h) (Or.inr ⟨by rfl, rfl⟩) (by assumption) ?_
  simp only [List.getElem_toArray, List.getElem_cons_succ, List.getElem_cons_zero, Act.put, List.setIfInBounds_toArray, List.set_cons_zero, List.set_cons_succ]
  refine wpAnyH_take (i := 16) (v := undef) rfl (by kernel_rfl) (by kernel_rfl) (by kernel_rfl) (fun _ _ _ h => h) (Or.inr ⟨by rfl, rfl⟩) (by assumption) ?_
  simp only [List.getElem_toArray, List.getElem_cons_succ, List.getElem_cons_zero, Act.put, List.setIfInBounds_toArray, List.set_cons_zero, List.set_cons_succ]
  refine wpAnyH_take (i := 17) (v := undef) rfl (by kernel_rfl) (by kernel_rfl) (by kernel_rfl) (fun _ _ _ h => h) (Or.inr ⟨by rfl, rfl⟩) (by assumption) ?_
  simp only [List.getElem_toArray, List.getElem_cons_succ, List.getElem_cons_zero, Act.put, List.setIfInBounds_toArray, List.set_cons_zero, List.set_cons_succ]
  refine wpAnyH_take (i := 18) (v := ?_) rfl (by kernel_rfl) (by kernel_rfl) (by kernel_rfl) (fun _ _ _ h => h) (Or.inl ⟨by rfl, ?_⟩) (by assumption) ?_
  rotate_left
  · intro wq hSq
    obtain ⟨q0, q1, q2, q3, q4⟩ := hSq
    go_simp
    try with_reducible rfl
  simp only [List.getElem_toArray, List.getElem_cons_succ, List.getElem_cons_zero, Act.put, List.setIfInBounds_toArray, List.set_cons_zero, List.set_cons_succ]
  clear hS0
  refine wpAnyH_ready (rs := [19]) (by kernel_rfl) (by simp) ?_
  refine AllReadyH.cons rfl (fun Kq hKq => ?_) AllReadyH.nil
  go_simp
  refine hKq.out _ _ ?_ (fun hHeld => ?_)
  · exact spr_S (X7.out.other (by have := NXZ.out; omega)) (Y7.out.other (by have := NYZ.out; omega)) (C7.out.sets HGG.out) (O7.out.other (by omega))
  clear hKq Kq
  refine wpAnyH_ready (rs := [20]) (by kernel_rfl) (by simp) ?_
  refine AllReadyH.cons rfl (fun Kq hKq => ?_) AllReadyH.nil
  go_simp
  refine hKq.out _ _ hHeld (fun _ => ?_)
  clear hKq Kq hHeld
  refine wpAnyH_done (by kernel_rfl) ?_ _
  go_wp2
  refine bodyPost_ret (v := .tuple #[.agg (T12 x0 x1 x2 x3 y0 y1 y2 y3 1 18446744069414584320 18446744073709551615 4294967294).toArray, .bool false]) ?_ rfl ⟨x0, x1, x2, x3, y0, y1, y2, y3, by rw [HON.out], by rw [if_neg (Int.not_lt.2 HPX.out)]; exact NX.out, by rw [if_neg (Int.not_lt.2 HPY.out)]; exact NY.out, below_sets U7.out (by omega) U7.out.size _ _⟩
  exact res_two (p := 4) (q := 5) (T := 72) (X := T12 x0 x1 x2 x3 y0 y1 y2 y3 1 18446744069414584320 18446744073709551615 4294967294) (g := w.heap.size + 1 + 1) (by kernel_rfl) _ _ rfl Tryd.underlying72 rfl (by kernel_rfl) (blk_all Z7.out rfl)

theorem spread_any (X Y : List Int) (hX : X.length = 32) (hY : Y.length = 32) (dX : Dg 256 X) (dY : Dg 256 Y) (b0 b1 b2 b3 : Int) (hb : Nw b0 b1 b2 b3 BM) (w : World) (hC : Cv w) :
    Calls Tryd.prog 29 #[.agg (pL X Y false).toArray, .agg (opL b0 b1 b2 b3).toArray] w (Sp X Y w) := by
  by_cases h1 : dn X < PP
  · by_cases h2 : dn Y < PP
    · exact spread_yy X Y hX hY dX dY b0 b1 b2 b3 hb w hC h1 h2
    · exact spread_yn X Y hX hY dX dY b0 b1 b2 b3 hb w hC h1 (by omega)
  · by_cases h2 : dn Y < PP
    · exact spread_ny X Y hX hY dX dY b0 b1 b2 b3 hb w hC (by omega) h2
    · exact spread_nn X Y hX hY dX dY b0 b1 b2 b3 hb w hC (by omega) (by omega)

end Go.Proofs.YtcijjmncilciiaaDoor
