/-
  curve.Mul: so many times a point.
-/
import Derived.Test.YtnabmdpgibnkaaaDoorZEcE
import Derived.Deep.DeepCutAuto
namespace Go.Proofs.YtnabmdpgibnkaaaDoor
open Go.RowKit Go.IntWalk
attribute [local go_sem ↓] ld_num st_num ld_pln st_pln ld_ops st_ops ld_pnt st_pnt ld_dig st_dig ld_tri st_tri eq_num ne_num eq_pnt ne_pnt bd_pnt

theorem ldDg {T : TypeId} {w : World} {g : Nat} {K : List Int} (hK : K.length = 32) (h : Blk T w g (bV K)) : (ldA 23 (.pointer (some ⟨g, 0, none⟩))).run Tryd.prog w = .ok (.agg (bV K).toArray) w :=
  ldA_all Tryd.underlying23 rfl (info_dig' hK) h

theorem spreadN {X Y : List Int} {f : Bool} (hX : X.length = 32) (hY : Y.length = 32) (dX : Dg 256 X) (dY : Dg 256 Y) (h : onP X Y f = true) (w : World) (hC : Cv w) : Calls Tryd.prog 37 #[.agg (pL X Y f).toArray, .agg doL.toArray] w (Ans (.tuple #[.agg (t3 (sx X f) (sy Y f) (sz f)).toArray, .bool true]) w) := by
  obtain ⟨b0, b1, b2, b3, hb⟩ := nw_at bm_nb
  rw [← opL_doL hb]
  refine (spread_tri X Y f hX hY dX dY b0 b1 b2 b3 hb w hC).mono ?_
  rintro e w1 ⟨x0, x1, x2, x3, y0, y1, y2, y3, z0, z1, z2, z3, rfl, hN, LB⟩
  obtain ⟨nx, ny, nz⟩ := hN h
  rw [T12_t3 nx ny nz, h]
  exact ⟨rfl, LB⟩
theorem spreadNo {X Y : List Int} {f : Bool} (hX : X.length = 32) (hY : Y.length = 32) (dX : Dg 256 X) (dY : Dg 256 Y) (h : onP X Y f = false) (w : World) (hC : Cv w) : Calls Tryd.prog 37 #[.agg (pL X Y f).toArray, .agg doL.toArray] w (fun e w' => ∃ L : List Value, e = .returned (.tuple #[.agg L.toArray, .bool false]) ∧ L.length = 12 ∧ (∀ v ∈ L, v.oneCell' = true) ∧ Below w.heap.size w w') := by
  obtain ⟨b0, b1, b2, b3, hb⟩ := nw_at bm_nb
  rw [← opL_doL hb]
  refine (spread_tri X Y f hX hY dX dY b0 b1 b2 b3 hb w hC).mono ?_
  rintro e w1 ⟨x0, x1, x2, x3, y0, y1, y2, y3, z0, z1, z2, z3, rfl, hN, LB⟩
  rw [h]
  exact ⟨_, rfl, rfl, T12_one _ _ _ _ _ _ _ _ _ _ _ _, LB⟩
theorem stLn (w : World) (L : List Value) (hL : L.length = 12) (h1 : ∀ v ∈ L, v.oneCell' = true) : (stA 91 (.pointer (some ⟨w.heap.size, 0, none⟩)) (.agg L.toArray)).run Tryd.prog (w.alloc (.cells #[.int .u64 0, .int .u64 0, .int .u64 0, .int .u64 0, .int .u64 0, .int .u64 0, .int .u64 0, .int .u64 0, .int .u64 0, .int .u64 0, .int .u64 0, .int .u64 0] 91)) = .ok () (w.alloc (.cells L.toArray 91)) :=
  run_storeAt_new (P := Tryd.prog) w 91 _ L.toArray (by rw [List.size_toArray, hL]; kernel_rfl) (by simp [hL]) (all_oneCell_toArray h1)

theorem gath_rep {x y z : Int} {p : Option (Int × Int)} (h : RepP x y z p) (w : World) (hC : Cv w) : Calls Tryd.prog 38 #[.agg (t3 x y z).toArray, .agg doL.toArray] w (Ans (.agg (pL (encX p) (encY p) (encF p)).toArray) w) := by
  have := gatheredN h.nx h.ny h.nz w hC
  rw [gath_enc h] at this
  exact this

set_option maxRecDepth 100000 in
set_option maxHeartbeats 4000000 in
theorem mul_yes (K X Y : List Int) (f : Bool) (hK : K.length = 32) (dK : Dg 256 K) (hX : X.length = 32) (hY : Y.length = 32) (dX : Dg 256 X) (dY : Dg 256 Y) (hon : onP X Y f = true) (w : World) (hC : Cv w) :
    Calls Tryd.prog 15 #[.agg (bV K).toArray, .agg (pL X Y f).toArray] w (Ans (.tuple #[.agg (pL (encX (pmul (kbit K) (ptOf X Y f) 256)) (encY (pmul (kbit K) (ptOf X Y f) 256)) (encF (pmul (kbit K) (ptOf X Y f) 256))).toArray, .int .i64 0]) w) := by
  have HK := hide hK
  have HX := hide hX
  have HY := hide hY
  have HC := hide hC
  have o1 : ∀ v ∈ bV K, v.oneCell' = true := ints_one _ _
  have o2 := pL_one X Y f
  have hS : Bx w [(w.heap.size, 23, bV K), (w.heap.size + 1, 25, pL X Y f), (w.heap.size + 1 + 1, 25, PZ)] (((w.alloc (.cells (bV K).toArray 23)).alloc (.cells (pL X Y f).toArray 25)).alloc (.cells Tryd.zeroCells25 25)) :=
    (((Bx.nil w).newAt 0 (w.heap.size) (by simp) 23 (bV K) _ rfl).newAt 1 (w.heap.size + 1) (by simp) 25 (pL X Y f) _ rfl).newAt 2 (w.heap.size + 1 + 1) (by simp) 25 PZ _ zc_pnt
  have HSP : Hid (∀ W, Cv W → Calls Tryd.prog 37 #[.agg (pL X Y f).toArray, .agg doL.toArray] W (Ans (.tuple #[.agg (t3 (sx X f) (sy Y f) (sz f)).toArray, .bool true]) W)) := fun W hW => spreadN hX hY dX dY hon W hW
  have R := spread_rep hX hY dX dY hon
  have HMU : Hid (∀ W, Cv W → Calls Tryd.prog 39 #[.agg (bV K).toArray, .agg (t3 (sx X f) (sy Y f) (sz f)).toArray, .agg doL.toArray] W (fun e w' => ∃ x y z, e = .returned (.agg (t3 x y z).toArray) ∧ RepP x y z (pmul (kbit K) (ptOf X Y f) 256) ∧ Below W.heap.size W w')) := fun W hW => multiple_rep K hK dK R W hW
  generalize pmul (kbit K) (ptOf X Y f) 256 = Q at *
  generalize sx X f = x at *
  generalize sy Y f = y at *
  generalize sz f = z at *
  have HQX := hide (encX_len Q)
  have HQY := hide (encY_len Q)
  have HGA : Hid (∀ {x y z : Int} {p : Option (Int × Int)}, RepP x y z p → ∀ W, Cv W → Calls Tryd.prog 38 #[.agg (t3 x y z).toArray, .agg doL.toArray] W (Ans (.agg (pL (encX p) (encY p) (encF p)).toArray) W)) := fun h W hW => gath_rep h W hW
  clear hK dK hX hY dX dY hon hC R
  go_enter Tryd.func15, Tryd.ntmps15
  go_wp2_with fail
  refine (opsN _ (HC.out.below hS.bl)).mono ?_
  rintro e U1 ⟨rfl, LB⟩
  have hS := hS.below LB
  have hst := stDo U1
  have hS' : Bx w [(w.heap.size, 23, bV K), (w.heap.size + 1, 25, pL X Y f), (U1.heap.size, 86, doL), (w.heap.size + 1 + 1, 25, PZ)] (U1.alloc (.cells doL.toArray 86)) := hS.newAt 2 U1.heap.size rfl 86 doL _ rfl
  clear hS LB o1 o2
  have hS := hS'
  clear hS'
  go_upto_region 2 with fail
  generalize U1.alloc (.cells doL.toArray 86) = U2 at hS ⊢
  generalize U1.heap.size = g6 at hS ⊢
  clear hst
  have hlp := (pnt_ld HX.out HY.out (hS.get 1 rfl)).1
  have hlo := ldD (hS.get 2 rfl)
  go_wp2_with fail
  refine (HSP.out _ (HC.out.below hS.bl)).mono ?_
  rintro e U3 ⟨rfl, LB⟩
  have hS := hS.below LB
  have hst := sttn U3 x y z
  have hS' : Bx w [(w.heap.size, 23, bV K), (w.heap.size + 1, 25, pL X Y f), (g6, 86, doL), (U3.heap.size, 91, t3 x y z), (w.heap.size + 1 + 1, 25, PZ)] (U3.alloc (.cells (t3 x y z).toArray 91)) := hS.newAt 3 U3.heap.size rfl 91 (t3 x y z) _ rfl
  clear hS LB hlp hlo
  have hS := hS'
  clear hS'
  go_upto_region 3 with fail
  generalize U3.alloc (.cells (t3 x y z).toArray 91) = U4 at hS ⊢
  generalize U3.heap.size = g7 at hS ⊢
  clear hst
  go_wp2
  have hS := hS.drew
  refine wp_region_held_drew (S := Bx w [(w.heap.size, 23, bV K), (w.heap.size + 1, 25, pL X Y f), (g6, 86, doL), (g7, 91, (t3 x y z))]) (by kernel_rfl) (hS.pre 4) (fun _ => ?_)
  generalize U4.drew = U1 at hS ⊢
  have hP : Bx w [(w.heap.size, 23, bV K), (w.heap.size + 1, 25, pL X Y f), (g6, 86, doL), (g7, 91, (t3 x y z))] U1 := hS.pre 4
  refine wpAnyH_take (i := 0) (v := ?_) rfl (by kernel_rfl) (by kernel_rfl) (by kernel_rfl) (fun _ _ _ h => h) (Or.inl ⟨by rfl, ?_⟩) (by assumption) ?_
  rotate_left
  · intro wq hSq
    have hl := ldDg HK.out (hSq.get 0 rfl)
    go_simp
    try with_reducible rfl
  simp only [List.getElem_toArray, List.getElem_cons_zero, Act.put, List.setIfInBounds_toArray, List.set_cons_zero, List.set_cons_succ]
  refine wpAnyH_take (i := 1) (v := ?_) rfl (by kernel_rfl) (by kernel_rfl) (by kernel_rfl) (fun _ _ _ h => h) (Or.inl ⟨by rfl, ?_⟩) (by assumption) ?_
  rotate_left
  · intro wq hSq
    have hl := ldt (hSq.get 3 rfl)
    go_simp
    try with_reducible rfl
  simp only [List.getElem_toArray, List.getElem_cons_succ, List.getElem_cons_zero, Act.put, List.setIfInBounds_toArray, List.set_cons_zero, List.set_cons_succ]
  refine wpAnyH_take (i := 2) (v := ?_) rfl (by kernel_rfl) (by kernel_rfl) (by kernel_rfl) (fun _ _ _ h => h) (Or.inl ⟨by rfl, ?_⟩) (by assumption) ?_
  rotate_left
  · intro wq hSq
    have hl := ldD (hSq.get 2 rfl)
    go_simp
    try with_reducible rfl
  simp only [List.getElem_toArray, List.getElem_cons_succ, List.getElem_cons_zero, Act.put, List.setIfInBounds_toArray, List.set_cons_zero, List.set_cons_succ]
  refine wpAnyH_take (i := 4) (v := ?_) rfl (by kernel_rfl) (by kernel_rfl) (by kernel_rfl) (fun _ _ _ h => h) (Or.inl ⟨by rfl, ?_⟩) (by assumption) ?_
  rotate_left
  · intro wq hSq
    have hl := ldD (hSq.get 2 rfl)
    go_simp
    try with_reducible rfl
  simp only [List.getElem_toArray, List.getElem_cons_succ, List.getElem_cons_zero, Act.put, List.setIfInBounds_toArray, List.set_cons_zero, List.set_cons_succ]
  clear hP
  refine wpAnyH_ready (rs := [3]) (by kernel_rfl) (by simp) ?_
  refine AllReadyH.cons rfl (fun Kq hKq => ?_) AllReadyH.nil
  go_simp
  refine (HMU.out _ (HC.out.below hS.bl)).mono ?_
  rintro e U2 ⟨mx, my, mz, rfl, hM, LB⟩
  have hS := hS.below LB
  clear LB
  have HM := hide hM
  clear hM
  refine hKq.out _ _ (hS.pre 4) (fun _ => ?_)
  clear hKq Kq
  refine wpAnyH_ready (rs := [5]) (by kernel_rfl) (by simp) ?_
  refine AllReadyH.cons rfl (fun Kq hKq => ?_) AllReadyH.nil
  go_simp
  refine (HGA.out HM.out _ (HC.out.below hS.bl)).mono ?_
  rintro e U3 ⟨rfl, LB⟩
  have hS := hS.below LB
  clear LB
  refine hKq.out _ _ (hS.pre 4) (fun _ => ?_)
  clear hKq Kq
  have hst := stPt (X := encX Q) (Y := encY Q) (f := encF Q) HQX.out HQY.out (hS.get 4 rfl) rfl
  refine wpAnyH_ready (rs := [6]) (by kernel_rfl) (by simp) ?_
  refine AllReadyH.cons rfl (fun Kq hKq => ?_) AllReadyH.nil
  go_simp
  have hS' : Bx w [(w.heap.size, 23, bV K), (w.heap.size + 1, 25, pL X Y f), (g6, 86, doL), (g7, 91, (t3 x y z)), (w.heap.size + 1 + 1, 25, (pL (encX Q) (encY Q) (encF Q)))] (U3.setCells (w.heap.size + 1 + 1) 0 (pL (encX Q) (encY Q) (encF Q))) := hS.setAt 4 (pL (encX Q) (encY Q) (encF Q)) rfl (by rw [pL_len HQX.out HQY.out]; rfl)
  refine hKq.out _ _ (hS'.pre 4) (fun _ => ?_)
  clear hKq Kq hst hS
  have hS := hS'
  clear hS'
  generalize U3.setCells (w.heap.size + 1 + 1) 0 (pL (encX Q) (encY Q) (encF Q)) = U4 at hS ⊢
  refine wpAnyH_ready (rs := [7]) (by kernel_rfl) (by simp) ?_
  refine AllReadyH.cons rfl (fun Kq hKq => ?_) AllReadyH.nil
  go_simp
  refine hKq.out _ _ (hS.pre 4) (fun _ => ?_)
  clear hKq Kq
  refine wpAnyH_done (by kernel_rfl) ?_ _
  go_wp2
  refine bodyPost_ret (v := .tuple #[.agg (pL (encX Q) (encY Q) (encF Q)).toArray, .int .i64 0]) ?_ rfl ⟨rfl, hS.bl⟩
  exact res_two (T := 25) (p := 4) (q := 5) (ty := 25) (X := pL (encX Q) (encY Q) (encF Q)) (by kernel_rfl) _ _ rfl Tryd.underlying25 rfl (by rw [pL_len HQX.out HQY.out]; exact info_pnt) (hS.get 4 rfl)

set_option maxRecDepth 100000 in
set_option maxHeartbeats 4000000 in
theorem mul_no (K X Y : List Int) (f : Bool) (hX : X.length = 32) (hY : Y.length = 32) (dX : Dg 256 X) (dY : Dg 256 Y) (hon : onP X Y f = false) (w : World) (hC : Cv w) :
    Calls Tryd.prog 15 #[.agg (bV K).toArray, .agg (pL X Y f).toArray] w (Ans (.tuple #[.agg PZ.toArray, .int .i64 100]) w) := by
  have HX := hide hX
  have HY := hide hY
  have HC := hide hC
  have o1 : ∀ v ∈ bV K, v.oneCell' = true := ints_one _ _
  have o2 := pL_one X Y f
  have hS : Bx w [(w.heap.size, 23, bV K), (w.heap.size + 1, 25, pL X Y f), (w.heap.size + 1 + 1, 25, PZ)] (((w.alloc (.cells (bV K).toArray 23)).alloc (.cells (pL X Y f).toArray 25)).alloc (.cells Tryd.zeroCells25 25)) :=
    (((Bx.nil w).newAt 0 (w.heap.size) (by simp) 23 (bV K) _ rfl).newAt 1 (w.heap.size + 1) (by simp) 25 (pL X Y f) _ rfl).newAt 2 (w.heap.size + 1 + 1) (by simp) 25 PZ _ zc_pnt
  have HSP : Hid (∀ W, Cv W → Calls Tryd.prog 37 #[.agg (pL X Y f).toArray, .agg doL.toArray] W (fun e w' => ∃ L : List Value, e = .returned (.tuple #[.agg L.toArray, .bool false]) ∧ L.length = 12 ∧ (∀ v ∈ L, v.oneCell' = true) ∧ Below W.heap.size W w')) := fun W hW => spreadNo hX hY dX dY hon W hW
  clear hX hY dX dY hon hC
  go_enter Tryd.func15, Tryd.ntmps15
  go_wp2_with fail
  refine (opsN _ (HC.out.below hS.bl)).mono ?_
  rintro e U1 ⟨rfl, LB⟩
  have hS := hS.below LB
  have hst := stDo U1
  have hS' : Bx w [(w.heap.size, 23, bV K), (w.heap.size + 1, 25, pL X Y f), (U1.heap.size, 86, doL), (w.heap.size + 1 + 1, 25, PZ)] (U1.alloc (.cells doL.toArray 86)) := hS.newAt 2 U1.heap.size rfl 86 doL _ rfl
  clear hS LB o1 o2
  have hS := hS'
  clear hS'
  go_upto_region 2 with fail
  generalize U1.alloc (.cells doL.toArray 86) = U2 at hS ⊢
  generalize U1.heap.size = g6 at hS ⊢
  clear hst
  have hlp := (pnt_ld HX.out HY.out (hS.get 1 rfl)).1
  have hlo := ldD (hS.get 2 rfl)
  go_wp2_with fail
  refine (HSP.out _ (HC.out.below hS.bl)).mono ?_
  rintro e U3 ⟨L, rfl, hL, h1, LB⟩
  have hS := hS.below LB
  have hst := stLn U3 L hL h1
  have hS' : Bx w [(w.heap.size, 23, bV K), (w.heap.size + 1, 25, pL X Y f), (g6, 86, doL), (U3.heap.size, 91, L), (w.heap.size + 1 + 1, 25, PZ)] (U3.alloc (.cells L.toArray 91)) := hS.newAt 3 U3.heap.size rfl 91 L _ rfl
  clear hS LB hlp hlo hL h1
  have hS := hS'
  clear hS'
  go_upto_region 3 with fail
  generalize U3.alloc (.cells L.toArray 91) = U4 at hS ⊢
  generalize U3.heap.size = g7 at hS ⊢
  clear hst
  have hbz : ∀ W : World, (bdA 25 #[]).run Tryd.prog W = .ok (.agg PZ.toArray) W := fun W => by kernel_rfl
  have hsz : (stA 25 (.pointer (some ⟨w.heap.size + 1 + 1, 0, none⟩)) (.agg PZ.toArray)).run Tryd.prog U4 = .ok () (U4.setCells (w.heap.size + 1 + 1) 0 PZ) := stPt (f := false) (X := z32) (Y := z32) rfl rfl (hS.get 4 rfl) rfl
  have hS' : Bx w [(w.heap.size, 23, bV K), (w.heap.size + 1, 25, pL X Y f), (g6, 86, doL), (g7, 91, L), (w.heap.size + 1 + 1, 25, PZ)] (U4.setCells (w.heap.size + 1 + 1) 0 PZ) := hS.setAt 4 PZ rfl rfl
  have HPI : Hid ((Tryd.prog.info? 25).map (·.size) = some PZ.length) := info_pnt
  clear hS
  generalize PZ = LZ at *
  go_wp2
  generalize U4.setCells (w.heap.size + 1 + 1) 0 LZ = U5 at hS' ⊢
  refine bodyPost_ret (v := .tuple #[.agg LZ.toArray, .int .i64 100]) ?_ rfl ⟨rfl, hS'.bl⟩
  exact res_two (T := 25) (p := 4) (q := 5) (ty := 25) (X := LZ) (by kernel_rfl) _ _ rfl Tryd.underlying25 rfl HPI.out (hS'.get 4 rfl)

end Go.Proofs.YtnabmdpgibnkaaaDoor
