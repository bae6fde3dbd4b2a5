/-
  curve's products.
-/
import Derived.Test.YtcijjmncilciiaaDoorZBxMToCvN
import Derived.Deep.DeepCutAuto
namespace Go.Proofs.YtcijjmncilciiaaDoor
open Go.RowKit Go.IntWalk
attribute [local go_sem ↓] ld_num st_num ld_pln st_pln ld_ops st_ops ld_tri st_tri bd_tri

set_option maxRecDepth 100000 in
set_option maxHeartbeats 2000000 in
theorem products_core (x y u v v17 v22 v23 : Int) (b_x : Nb x) (b_y : Nb y) (b_u : Nb u) (b_v : Nb v) (h17 : mm x y = v17) (h22 : mm u v = v22) (h23 : pa v17 v22 = v23) (w : World) :
    Calls Tryd.prog 65 #[.agg doL.toArray, .agg (nL x).toArray, .agg (nL y).toArray, .agg (nL u).toArray, .agg (nL v).toArray] w (Ans (.agg (nL v23).toArray) w) := by
  have b_v17 : Nb v17 := by rw [← h17]; exact mm_bd _ _
  have b_v22 : Nb v22 := by rw [← h22]; exact mm_bd _ _
  have b_v23 : Nb v23 := by rw [← h23]; exact pa_bd _ _
  have C17 : Hid (∀ W, Calls Tryd.prog 62 #[.agg (nL x).toArray, .agg (nL y).toArray] W (Ans (.agg (nL v17).toArray) W)) := fun W => by rw [← h17]; exact timesN b_x b_y W
  have C22 : Hid (∀ W, Calls Tryd.prog 62 #[.agg (nL u).toArray, .agg (nL v).toArray] W (Ans (.agg (nL v22).toArray) W)) := fun W => by rw [← h22]; exact timesN b_u b_v W
  have C23 : Hid (∀ W, Calls Tryd.prog 60 #[.agg (nL v17).toArray, .agg (nL v22).toArray] W (Ans (.agg (nL v23).toArray) W)) := fun W => by rw [← h23]; exact plusN b_v17 b_v22 W
  have o1 := doL_one
  have o_x := nL_one x
  have o_y := nL_one y
  have o_u := nL_one u
  have o_v := nL_one v
  have hS : Bx w [(w.heap.size, 67, doL), (w.heap.size + 1, 70, (nL x)), (w.heap.size + 1 + 1, 70, (nL y)), (w.heap.size + 1 + 1 + 1, 70, (nL u)), (w.heap.size + 1 + 1 + 1 + 1, 70, (nL v)), (w.heap.size + 1 + 1 + 1 + 1 + 1, 70, z4L)] ((((((w.alloc (.cells doL.toArray 67)).alloc (.cells (nL x).toArray 70)).alloc (.cells (nL y).toArray 70)).alloc (.cells (nL u).toArray 70)).alloc (.cells (nL v).toArray 70)).alloc (.cells #[.int .u64 0, .int .u64 0, .int .u64 0, .int .u64 0] 70)) := (((((((Bx.nil w).newAt 0 (w.heap.size) (by simp) 67 doL _ rfl).newAt 1 (w.heap.size + 1) (by simp) 70 (nL x) _ rfl).newAt 2 (w.heap.size + 1 + 1) (by simp) 70 (nL y) _ rfl).newAt 3 (w.heap.size + 1 + 1 + 1) (by simp) 70 (nL u) _ rfl).newAt 4 (w.heap.size + 1 + 1 + 1 + 1) (by simp) 70 (nL v) _ rfl).newAt 5 (w.heap.size + 1 + 1 + 1 + 1 + 1) (by simp) 70 z4L _ rfl)
  clear b_x b_y b_u b_v b_v17 b_v22 b_v23 h17 h22 h23
  go_enter Tryd.func65, Tryd.ntmps65
  go_wp2
  clear o1 o_x o_y o_u o_v
  generalize ((((((w.alloc (.cells doL.toArray 67)).alloc (.cells (nL x).toArray 70)).alloc (.cells (nL y).toArray 70)).alloc (.cells (nL u).toArray 70)).alloc (.cells (nL v).toArray 70)).alloc (.cells #[.int .u64 0, .int .u64 0, .int .u64 0, .int .u64 0] 70)) = U0 at hS ⊢
  have hS := hS.drew
  refine wp_region_held_drew (S := Bx w [(w.heap.size, 67, doL), (w.heap.size + 1, 70, (nL x)), (w.heap.size + 1 + 1, 70, (nL y)), (w.heap.size + 1 + 1 + 1, 70, (nL u)), (w.heap.size + 1 + 1 + 1 + 1, 70, (nL v))]) (by kernel_rfl) (hS.pre 5) (fun _ => ?_)
  generalize U0.drew = U1 at hS ⊢
  have hP : Bx w [(w.heap.size, 67, doL), (w.heap.size + 1, 70, (nL x)), (w.heap.size + 1 + 1, 70, (nL y)), (w.heap.size + 1 + 1 + 1, 70, (nL u)), (w.heap.size + 1 + 1 + 1 + 1, 70, (nL v))] U1 := hS.pre 5
  refine wpAnyH_take (i := 0) (v := ?_) rfl (by kernel_rfl) (by kernel_rfl) (by kernel_rfl) (fun _ _ _ h => h) (Or.inl ⟨by rfl, ?_⟩) (by assumption) ?_
  rotate_left
  · intro wq hSq
    go_simp
    try with_reducible rfl
  simp only [List.getElem_toArray, List.getElem_cons_zero, Act.put, List.setIfInBounds_toArray, List.set_cons_zero, List.set_cons_succ]
  refine wpAnyH_take (i := 1) (v := ?_) rfl (by kernel_rfl) (by kernel_rfl) (by kernel_rfl) (fun _ _ _ h => h) (Or.inl ⟨by rfl, ?_⟩) (by assumption) ?_
  rotate_left
  · intro wq hSq
    have hl := (doC (hSq.get 0 rfl)).1
    go_simp
    try with_reducible rfl
  simp only [List.getElem_toArray, List.getElem_cons_succ, List.getElem_cons_zero, Act.put, List.setIfInBounds_toArray, List.set_cons_zero, List.set_cons_succ]
  refine wpAnyH_take (i := 2) (v := ?_) rfl (by kernel_rfl) (by kernel_rfl) (by kernel_rfl) (fun _ _ _ h => h) (Or.inl ⟨by rfl, ?_⟩) (by assumption) ?_
  rotate_left
  · intro wq hSq
    go_simp
    try with_reducible rfl
  simp only [List.getElem_toArray, List.getElem_cons_succ, List.getElem_cons_zero, Act.put, List.setIfInBounds_toArray, List.set_cons_zero, List.set_cons_succ]
  refine wpAnyH_take (i := 3) (v := ?_) rfl (by kernel_rfl) (by kernel_rfl) (by kernel_rfl) (fun _ _ _ h => h) (Or.inl ⟨by rfl, ?_⟩) (by assumption) ?_
  rotate_left
  · intro wq hSq
    have hl := (doC (hSq.get 0 rfl)).2.2.1
    go_simp
    try with_reducible rfl
  simp only [List.getElem_toArray, List.getElem_cons_succ, List.getElem_cons_zero, Act.put, List.setIfInBounds_toArray, List.set_cons_zero, List.set_cons_succ]
  refine wpAnyH_take (i := 4) (v := ?_) rfl (by kernel_rfl) (by kernel_rfl) (by kernel_rfl) (fun _ _ _ h => h) (Or.inl ⟨by rfl, ?_⟩) (by assumption) ?_
  rotate_left
  · intro wq hSq
    have hl := ldN (hSq.get 1 rfl)
    go_simp
    try with_reducible rfl
  simp only [List.getElem_toArray, List.getElem_cons_succ, List.getElem_cons_zero, Act.put, List.setIfInBounds_toArray, List.set_cons_zero, List.set_cons_succ]
  refine wpAnyH_take (i := 5) (v := ?_) rfl (by kernel_rfl) (by kernel_rfl) (by kernel_rfl) (fun _ _ _ h => h) (Or.inl ⟨by rfl, ?_⟩) (by assumption) ?_
  rotate_left
  · intro wq hSq
    have hl := ldN (hSq.get 2 rfl)
    go_simp
    try with_reducible rfl
  simp only [List.getElem_toArray, List.getElem_cons_succ, List.getElem_cons_zero, Act.put, List.setIfInBounds_toArray, List.set_cons_zero, List.set_cons_succ]
  refine wpAnyH_take (i := 7) (v := ?_) rfl (by kernel_rfl) (by kernel_rfl) (by kernel_rfl) (fun _ _ _ h => h) (Or.inl ⟨by rfl, ?_⟩) (by assumption) ?_
  rotate_left
  · intro wq hSq
    go_simp
    try with_reducible rfl
  simp only [List.getElem_toArray, List.getElem_cons_succ, List.getElem_cons_zero, Act.put, List.setIfInBounds_toArray, List.set_cons_zero, List.set_cons_succ]
  refine wpAnyH_take (i := 8) (v := ?_) rfl (by kernel_rfl) (by kernel_rfl) (by kernel_rfl) (fun _ _ _ h => h) (Or.inl ⟨by rfl, ?_⟩) (by assumption) ?_
  rotate_left
  · intro wq hSq
    have hl := (doC (hSq.get 0 rfl)).2.2.1
    go_simp
    try with_reducible rfl
  simp only [List.getElem_toArray, List.getElem_cons_succ, List.getElem_cons_zero, Act.put, List.setIfInBounds_toArray, List.set_cons_zero, List.set_cons_succ]
  refine wpAnyH_take (i := 9) (v := ?_) rfl (by kernel_rfl) (by kernel_rfl) (by kernel_rfl) (fun _ _ _ h => h) (Or.inl ⟨by rfl, ?_⟩) (by assumption) ?_
  rotate_left
  · intro wq hSq
    have hl := ldN (hSq.get 3 rfl)
    go_simp
    try with_reducible rfl
  simp only [List.getElem_toArray, List.getElem_cons_succ, List.getElem_cons_zero, Act.put, List.setIfInBounds_toArray, List.set_cons_zero, List.set_cons_succ]
  refine wpAnyH_take (i := 10) (v := ?_) rfl (by kernel_rfl) (by kernel_rfl) (by kernel_rfl) (fun _ _ _ h => h) (Or.inl ⟨by rfl, ?_⟩) (by assumption) ?_
  rotate_left
  · intro wq hSq
    have hl := ldN (hSq.get 4 rfl)
    go_simp
    try with_reducible rfl
  simp only [List.getElem_toArray, List.getElem_cons_succ, List.getElem_cons_zero, Act.put, List.setIfInBounds_toArray, List.set_cons_zero, List.set_cons_succ]
  clear hP
  refine wpAnyH_ready (rs := [6]) (by kernel_rfl) (by simp) ?_
  refine AllReadyH.cons rfl (fun Kq hKq => ?_) AllReadyH.nil
  go_simp
  refine (C17.out _).mono ?_
  rintro e U2 ⟨rfl, LB⟩
  have hS := hS.below LB
  clear LB
  refine hKq.out _ _ (hS.pre 5) (fun _ => ?_)
  clear hKq Kq
  refine wpAnyH_ready (rs := [11]) (by kernel_rfl) (by simp) ?_
  refine AllReadyH.cons rfl (fun Kq hKq => ?_) AllReadyH.nil
  go_simp
  refine (C22.out _).mono ?_
  rintro e U3 ⟨rfl, LB⟩
  have hS := hS.below LB
  clear LB
  refine hKq.out _ _ (hS.pre 5) (fun _ => ?_)
  clear hKq Kq
  refine wpAnyH_ready (rs := [12]) (by kernel_rfl) (by simp) ?_
  refine AllReadyH.cons rfl (fun Kq hKq => ?_) AllReadyH.nil
  go_simp
  refine (C23.out _).mono ?_
  rintro e U4 ⟨rfl, LB⟩
  have hS := hS.below LB
  clear LB
  refine hKq.out _ _ (hS.pre 5) (fun _ => ?_)
  clear hKq Kq
  have hst := stN (hS.get 5 rfl) rfl v23
  refine wpAnyH_ready (rs := [13]) (by kernel_rfl) (by simp) ?_
  refine AllReadyH.cons rfl (fun Kq hKq => ?_) AllReadyH.nil
  go_simp
  have hS' : Bx w [(w.heap.size, 67, doL), (w.heap.size + 1, 70, (nL x)), (w.heap.size + 1 + 1, 70, (nL y)), (w.heap.size + 1 + 1 + 1, 70, (nL u)), (w.heap.size + 1 + 1 + 1 + 1, 70, (nL v)), (w.heap.size + 1 + 1 + 1 + 1 + 1, 70, (nL v23))] (U4.setCells (w.heap.size + 1 + 1 + 1 + 1 + 1) 0 (nL v23)) := hS.setAt 5 (nL v23) rfl rfl
  refine hKq.out _ _ (hS'.pre 5) (fun _ => ?_)
  clear hKq Kq hst hS
  have hS := hS'
  clear hS'
  generalize U4.setCells (w.heap.size + 1 + 1 + 1 + 1 + 1) 0 (nL v23) = U5 at hS ⊢
  refine wpAnyH_done (by kernel_rfl) ?_ _
  go_wp2
  refine bodyPost_ret (v := .agg (nL v23).toArray) ?_ rfl ⟨rfl, hS.bl⟩
  exact res_one (T := 70) (p := 10) (ty := 70) (X := nL v23) (by kernel_rfl) _ _ rfl Tryd.underlying70 rfl (by kernel_rfl) (hS.get 5 rfl)

theorem productsN {x y u v : Int} (hx : Nb x) (hy : Nb y) (hu : Nb u) (hv : Nb v) (w : World) : Calls Tryd.prog 65 #[.agg doL.toArray, .agg (nL x).toArray, .agg (nL y).toArray, .agg (nL u).toArray, .agg (nL v).toArray] w (Ans (.agg (nL (pa (mm x y) (mm u v))).toArray) w) :=
  products_core x y u v _ _ _ hx hy hu hv rfl rfl rfl w

end Go.Proofs.YtcijjmncilciiaaDoor
